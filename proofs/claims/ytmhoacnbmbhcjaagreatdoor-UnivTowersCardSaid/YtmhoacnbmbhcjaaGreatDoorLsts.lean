/- Plain facts on lists of trees: no program. By an AI agent. -/
import Derived.Test.YtmhoacnbmbhcjaaGreatDoorBase
import Derived.Deep.RegionHeld3
import Derived.Deep.AppendLies
import Derived.Lib.AppendStr
import Derived.Laws.AppendOwnNone
namespace Go.Proofs.YtmhoacnbmbhcjaaGreatDoor.Pl
/-- the list of trees as a tree -/
def enc : List (List UInt8) → List UInt8
  | [] => [48]
  | l :: r => 49 :: (l ++ enc r)
theorem enc_pos (ls : List (List UInt8)) : 1 ≤ (enc ls).length := by cases ls <;> simp [enc]
/-- what has been written of it after k of them -/
def encTo (ls : List (List UInt8)) (k : Nat) : List UInt8 := (ls.take k).flatMap (49 :: ·)
theorem encTo_zero (ls : List (List UInt8)) : encTo ls 0 = [] := rfl
theorem encTo_succ (ls : List (List UInt8)) (k : Nat) (h : k < ls.length) : encTo ls (k + 1) = encTo ls k ++ [49] ++ ls.getD k [] := by
  unfold encTo
  rw [List.take_succ_eq_append_getElem h, List.flatMap_append]
  simp [List.getD, h]
theorem enc_all (ls : List (List UInt8)) : enc ls = encTo ls ls.length ++ [48] := by
  unfold encTo
  rw [List.take_length]
  induction ls with
  | nil => rfl
  | cons l r ih => simp [enc, ih]
theorem encTo_le (ls : List (List UInt8)) (k : Nat) : (encTo ls k).length + 1 ≤ (enc ls).length := by
  have h : encTo ls ls.length = encTo ls k ++ (ls.drop k).flatMap (49 :: ·) := by
    unfold encTo
    rw [List.take_length, ← List.flatMap_append, List.take_append_drop]
  rw [enc_all, h]
  simp
theorem encTo_out (ls : List (List UInt8)) {k : Nat} (h : ls.length ≤ k) : encTo ls k = encTo ls ls.length := by
  unfold encTo
  rw [List.take_of_length_le h, List.take_length]
theorem fs_enc : ∀ {ls : List (List UInt8)}, (∀ l ∈ ls, vld l = true) → fs (enc ls) 1 = some (enc ls).length
  | [], _ => rfl
  | l :: r, h => by
    have h1 := (vld_iff.1 (h l (by simp))).2
    have h2 := fs_enc (ls := r) (fun x hx => h x (by simp [hx]))
    show fs (49 :: (l ++ enc r)) 1 = some (49 :: (l ++ enc r)).length
    rw [fs_49, show 0 + 2 = 1 + 1 from rfl, fs_add, fs_append _ h1]
    simp only [Option.bind_some, List.drop_left, h2, Option.map_some]
    simp
theorem vld_enc {ls : List (List UInt8)} (h : ∀ l ∈ ls, vld l = true) (hs : (enc ls).length ≤ 2000000) : vld (enc ls) = true := vld_iff.2 ⟨hs, fs_enc h⟩
end Go.Proofs.YtmhoacnbmbhcjaaGreatDoor.Pl

namespace Go.Proofs.YtmhoacnbmbhcjaaGreatDoor
open Go.RowKit Pl

theorem rep_num (n : Nat) : Lib.repeatL [49, 48] n ++ [48] = num n := by
  induction n with
  | zero => rfl
  | succ n ih => rw [num_succ, ← ih]; rfl
set_option maxHeartbeats 400000 in
set_option maxRecDepth 100000 in
theorem Number_arg (n : Int) (w : World) (h : n < 0) :
    Calls Tryz.prog 158 #[.int .i64 n] w fun e w' => e = .returned (.tuple #[.string (S []), .int .i64 2]) ∧ Below w.heap.size w w' := by
  go_enter Tryz.func158, Tryz.ntmps158
  go_wp2_with fail
  go_ret2
  exact ⟨rfl, Below.refl _ _⟩
set_option maxHeartbeats 400000 in
set_option maxRecDepth 100000 in
theorem Number_size (n : Int) (w : World) (h : 999999 < n) :
    Calls Tryz.prog 158 #[.int .i64 n] w fun e w' => e = .returned (.tuple #[.string (S []), .int .i64 3]) ∧ Below w.heap.size w w' := by
  go_enter Tryz.func158, Tryz.ntmps158
  go_wp2_with fail
  go_ret2
  exact ⟨rfl, Below.refl _ _⟩
set_option maxHeartbeats 400000 in
set_option maxRecDepth 100000 in
theorem Number_yes (n : Nat) (w : World) (h : n ≤ 999999) :
    Calls Tryz.prog 158 #[.int .i64 n] w fun e w' => e = .returned (.tuple #[.string (S (num n)), .int .i64 0]) ∧ Below w.heap.size w w' := by
  have H := Lib.hid (rep_num n)
  have hr := fun W : World => Tryz.strings_Repeat (S [49, 48]) n W (by omega) (by rw [S_size]; simp; omega)
  have hl : (Lib.repeatL [49, 48] n).length ≤ 2000000 := by rw [Lib.repeatL_length]; simp; omega
  generalize hR : Lib.repeatL [49, 48] n = R at *
  have hr2 : ∀ W : World, Calls Tryz.prog 206 #[.string (S [49, 48]), .int .i64 n] W fun e w' => e = .returned (.string (S R)) ∧ Below W.heap.size W w' := hr
  have HR := Lib.hid hr2; clear hr hr2 hR
  go_enter Tryz.func158, Tryz.ntmps158
  go_wp2_with (go_at_call 206; refine (HR.out _).mono ?_; rintro e w1 ⟨rfl, hb1⟩)
  go_ret2
  exact ⟨by rw [← H.out]; rfl, hb1⟩

/-- the list holds what is valid -/
def AllV (ls : List (List UInt8)) : Prop := ∀ l ∈ ls, vld l = true
theorem AllV.at {ls : List (List UInt8)} (h : AllV ls) {k : Nat} (hk : k < ls.length) : vld (ls.getD k []) = true := h _ (by simp [List.getD, hk])

/-- cells of a slice of strings -/
def StrAt (w : World) (b off : Nat) (ls : List (List UInt8)) : Prop := b < w.heap.size ∧ ∀ k, k < ls.length → w.cell? ⟨b, off + k, none⟩ = some (.string (S (ls.getD k [])))
theorem StrAt.below {w w1 : World} {b off : Nat} {ls : List (List UInt8)} (h : StrAt w b off ls) (hb : Below w.heap.size w w1) : StrAt w1 b off ls :=
  ⟨Nat.lt_of_lt_of_le h.1 hb.size, fun k hk => by rw [hb.cell (p := ⟨b, off + k, none⟩) h.1]; exact h.2 k hk⟩

set_option maxHeartbeats 400000 in
set_option maxRecDepth 100000 in
theorem List_form (w : World) (b off cap : Nat) (ls : List (List UInt8)) (hc : StrAt w b off ls) (hm : ls.length ≤ 281474976710656) (hz : ∀ l ∈ ls, l.length ≤ 281474976710656) (hn : ¬ AllV ls) :
    Calls Tryz.prog 95 #[.slice (some ⟨b, off, none⟩) ls.length cap] w fun e w' => e = .returned (.tuple #[.string (S []), .int .i64 1]) ∧ Below w.heap.size w w' := by
  generalize hnn : ls.length = n at *
  have HN := Lib.hid hnn; clear hnn
  have HC := Lib.hid hc; have HZ := Lib.hid hz; have HV := Lib.hid hn; clear hc hz hn
  go_enter Tryz.func95, Tryz.ntmps95
  go_wp2
  go_loopw [14] (fun i wr => ∃ k : Nat, k ≤ n ∧ i = .int .i64 k ∧ Below w.heap.size w wr ∧ Hid (∀ j, j < k → vld (ls.getD j []) = true)) (fun i _ => n - (intOf i).toNat)
  case atStart => exact ⟨0, Nat.zero_le _, rfl, Below.refl _ _, Lib.hid (fun j hj => by omega)⟩
  case round =>
    obtain ⟨k, hk, rfl, hb, hK⟩ := hrel
    by_cases hlt : k < n
    · have hcell := (HC.out.below hb).2 k (by rw [HN.out]; exact hlt)
      have hxl : (ls.getD k []).length ≤ 281474976710656 := HZ.out _ (by simp [List.getD, HN.out, hlt])
      generalize hX : ls.getD k [] = x at *
      have HX := Lib.hid hX; clear hX
      by_cases hv : vld x = true
      · have hV := fun W : World => Valid_is true (S x) W (by rw [S_size]; exact hxl) hv
        have HVX := Lib.hid hv; have HW := Lib.hid hV; clear hv hV
        go_wp2_with (go_at_call 96; refine (HW.out _).mono ?_; rintro e w1 ⟨rfl, hb1⟩)
        go_roundw
        case rel => exact ⟨k + 1, by omega, by go_num, hb.trans (hb1.mono hb.size), Lib.hid (fun j hj => by
          rcases Nat.lt_or_ge j k with h | h
          · exact hK.out j h
          · obtain rfl : j = k := by omega
            rw [HX.out]; exact HVX.out)⟩
        case measure => simp [intOf]; omega
      · have hv : vld x = false := by simpa using hv
        have hV := fun W : World => Valid_is false (S x) W (by rw [S_size]; exact hxl) hv
        have HW := Lib.hid hV; clear hv hV
        go_wp2_with (go_at_call 96; refine (HW.out _).mono ?_; rintro e w1 ⟨rfl, hb1⟩)
        go_ret2
        exact ⟨rfl, hb.trans (hb1.mono hb.size)⟩
    · exfalso
      refine HV.out (fun l hl => ?_)
      obtain ⟨j, hj, rfl⟩ := List.getElem_of_mem hl
      have := hK.out j (by have := HN.out; omega)
      simpa [List.getD, hj] using this

theorem encTo_len (ls : List (List UInt8)) (k : Nat) (h : k < ls.length) : (encTo ls (k + 1)).length = (encTo ls k).length + (1 + (ls.getD k []).length) := by
  rw [encTo_succ ls k h]; simp; omega

set_option maxHeartbeats 800000 in
set_option maxRecDepth 100000 in
theorem List_size (w : World) (b off cap : Nat) (ls : List (List UInt8)) (hc : StrAt w b off ls) (hm : ls.length ≤ 281474976710656) (hn : AllV ls) (hz : 2000000 < (enc ls).length) :
    Calls Tryz.prog 95 #[.slice (some ⟨b, off, none⟩) ls.length cap] w fun e w' => e = .returned (.tuple #[.string (S []), .int .i64 3]) ∧ Below w.heap.size w w' := by
  generalize hnn : ls.length = n at *
  have HN := Lib.hid hnn; clear hnn
  have HC := Lib.hid hc; have HZ := Lib.hid hz; have HV := Lib.hid hn; clear hc hz hn
  go_enter Tryz.func95, Tryz.ntmps95
  go_wp2
  go_loopw [14] (fun i wr => ∃ k : Nat, k ≤ n ∧ i = .int .i64 k ∧ Below w.heap.size w wr) (fun i _ => n - (intOf i).toNat)
  case atStart => exact ⟨0, Nat.zero_le _, rfl, Below.refl _ _⟩
  case round =>
    obtain ⟨k, hk, rfl, hb⟩ := hrel
    by_cases hlt : k < n
    · have hcell := (HC.out.below hb).2 k (by rw [HN.out]; exact hlt)
      have hv := HV.out.at (k := k) (by rw [HN.out]; exact hlt)
      generalize ls.getD k [] = x at *
      have hV := fun W : World => Valid_is true (S x) W (by rw [S_size]; have := (vld_iff.1 hv).1; omega) hv
      have HW := Lib.hid hV; clear hv hV
      go_wp2_with (go_at_call 96; refine (HW.out _).mono ?_; rintro e w1 ⟨rfl, hb1⟩)
      go_roundw
      case rel => exact ⟨k + 1, by omega, by go_num, hb.trans (hb1.mono hb.size)⟩
      case measure => simp [intOf]; omega
    · go_wp2
      go_loop [6, 24] (fun z i => ∃ k : Nat, k ≤ n ∧ i = .int .i64 k ∧ z = .int .i64 (((encTo ls k).length + 1 : Nat) : Int) ∧ (encTo ls k).length + 1 ≤ 2000000) (fun _ i => n - (intOf i).toNat)
      case atStart => exact ⟨0, Nat.zero_le _, rfl, rfl, by rw [encTo_zero]; simp⟩
      case round =>
        obtain ⟨j, hj, rfl, rfl, hle⟩ := hrel
        by_cases hjt : j < n
        · have hcell := (HC.out.below hb).2 j (by rw [HN.out]; exact hjt)
          have hxl : (ls.getD j []).length ≤ 2000000 := (vld_iff.1 (HV.out.at (k := j) (by rw [HN.out]; exact hjt))).1
          have hst := encTo_len ls j (by rw [HN.out]; exact hjt)
          generalize ls.getD j [] = x at *
          generalize hE1 : (encTo ls (j + 1)).length = p at *
          generalize (encTo ls j).length = q at *
          have HE1 := Lib.hid hE1; clear hE1
          subst hst
          by_cases hbig : 2000000 < q + 1 + (1 + x.length)
          · go_wp2
            go_ret2
            exact ⟨rfl, hb⟩
          · go_wp2
            go_round
            case rel => exact ⟨j + 1, by omega, by go_num, by rw [HE1.out]; go_num, by rw [HE1.out]; omega⟩
            case measure => simp [intOf]; omega
        · exfalso
          have h1 := HZ.out
          rw [enc_all, ← encTo_out ls (k := j) (by rw [HN.out]; omega)] at h1
          simp at h1; omega

theorem WS (B b : Nat) (l x : List UInt8) (w : World) (h : Lib.IsBuilder 131 5 B b (Lib.byteCells l) w) (hlen : l.length + x.length ≤ 140737488355328) (hBw : B ≤ w.heap.size) :
    Calls Tryz.prog 112 #[.pointer (some ⟨b, 0, none⟩), .string (S x)] w fun e w' => e = .returned (.tuple #[.int .i64 x.length, .nilIface]) ∧ Lib.IsBuilder 131 5 B b (Lib.byteCells (l ++ x)) w' ∧ Below B w w' := by
  refine (Tryz.Builder_WriteString B b _ (S x) w h (by rw [Lib.byteCells_length, S_size]; exact hlen) hBw).mono fun e w' ⟨h1, h2, h3⟩ => ⟨by rw [h1, S_size], ?_, h3⟩
  rw [Lib.byteCells_append]
  exact Or.inr h2

set_option maxHeartbeats 1600000 in
set_option maxRecDepth 100000 in
theorem List_yes (w : World) (b off cap : Nat) (ls : List (List UInt8)) (hc : StrAt w b off ls) (hm : ls.length ≤ 281474976710656) (hn : AllV ls) (hz : (enc ls).length ≤ 2000000) :
    Calls Tryz.prog 95 #[.slice (some ⟨b, off, none⟩) ls.length cap] w fun e w' => e = .returned (.tuple #[.string (S (enc ls)), .int .i64 0]) ∧ Below w.heap.size w w' := by
  generalize hnn : ls.length = n at *
  have HN := Lib.hid hnn; clear hnn
  have HC := Lib.hid hc; have HZ := Lib.hid hz; have HV := Lib.hid hn; clear hc hz hn
  go_enter Tryz.func95, Tryz.ntmps95
  go_wp2
  go_loopw [14] (fun i wr => ∃ k : Nat, k ≤ n ∧ i = .int .i64 k ∧ Below w.heap.size w wr) (fun i _ => n - (intOf i).toNat)
  case atStart => exact ⟨0, Nat.zero_le _, rfl, Below.refl _ _⟩
  case round =>
    obtain ⟨k, hk, rfl, hb⟩ := hrel
    by_cases hlt : k < n
    · have hcell := (HC.out.below hb).2 k (by rw [HN.out]; exact hlt)
      have hv := HV.out.at (k := k) (by rw [HN.out]; exact hlt)
      generalize ls.getD k [] = x at *
      have hV := fun W : World => Valid_is true (S x) W (by rw [S_size]; have := (vld_iff.1 hv).1; omega) hv
      have HW := Lib.hid hV; clear hv hV
      go_wp2_with (go_at_call 96; refine (HW.out _).mono ?_; rintro e w1 ⟨rfl, hb1⟩)
      go_roundw
      case rel => exact ⟨k + 1, by omega, by go_num, hb.trans (hb1.mono hb.size)⟩
      case measure => simp [intOf]; omega
    · go_wp2
      go_loop [6, 24] (fun z i => ∃ k : Nat, k ≤ n ∧ i = .int .i64 k ∧ z = .int .i64 (((encTo ls k).length + 1 : Nat) : Int) ∧ (encTo ls k).length + 1 ≤ 2000000) (fun _ i => n - (intOf i).toNat)
      case atStart => exact ⟨0, Nat.zero_le _, rfl, rfl, by rw [encTo_zero]; simp⟩
      case round =>
        obtain ⟨j, hj, rfl, rfl, hle⟩ := hrel
        by_cases hjt : j < n
        · have hcell := (HC.out.below hb).2 j (by rw [HN.out]; exact hjt)
          have hxl : (ls.getD j []).length ≤ 2000000 := (vld_iff.1 (HV.out.at (k := j) (by rw [HN.out]; exact hjt))).1
          have hst := encTo_len ls j (by rw [HN.out]; exact hjt)
          have htop := Nat.le_trans (encTo_le ls (j + 1)) HZ.out
          generalize ls.getD j [] = x at *
          generalize hE1 : (encTo ls (j + 1)).length = p at *
          generalize (encTo ls j).length = q at *
          have HE1 := Lib.hid hE1; clear hE1
          subst hst
          go_wp2
          go_round
          case rel => exact ⟨j + 1, by omega, by go_num, by rw [HE1.out]; go_num, by rw [HE1.out]; omega⟩
          case measure => simp [intOf]; omega
        · obtain ⟨wo, rfl⟩ : ∃ wo : World, wo = wr := ⟨_, rfl⟩
          have hzz : (encTo ls j).length + 1 ≤ 2000000 := hle
          generalize (encTo ls j).length = q at *
          have HBK := Lib.hid (heap_alloc_new wo (.cells #[.pointer none, .slice none 0 0] 131))
          go_wp2_with (go_at_call 151; refine (Tryz.Builder_Grow_fresh wo.heap.size wo.heap.size (q + 1) _ (Nat.le_refl _) HBK.out (by simp) (by omega)).mono ?_; rintro e w1 ⟨rfl, hB1, hb1⟩)
          have hb2 : Below wo.heap.size wo w1 := ((Below.refl _ wo).alloc (Nat.le_refl _) _).trans hb1
          clear hb1
          go_loopw [40] (fun i W => ∃ k : Nat, k ≤ n ∧ i = .int .i64 k ∧ Lib.IsBuilder 131 5 wo.heap.size wo.heap.size (Lib.byteCells (encTo ls k)) W ∧ Below wo.heap.size wo W) (fun i _ => n - (intOf i).toNat)
          case atStart => exact ⟨0, Nat.zero_le _, rfl, Or.inr hB1, hb2⟩
          case round =>
            obtain ⟨i, hi, rfl, hI, hbw⟩ := hrel
            have hsz := hbw.size
            have hEi := encTo_le ls i
            have hZ := HZ.out
            by_cases hit : i < n
            · have hcell := (HC.out.below (hb.trans (hbw.mono hb.size))).2 i (by rw [HN.out]; exact hit)
              have hst := Lib.hid (encTo_succ ls i (by rw [HN.out]; exact hit))
              have hst2 := encTo_len ls i (by rw [HN.out]; exact hit)
              have htop := encTo_le ls (i + 1)
              generalize ls.getD i [] = x at *
              generalize encTo ls i = l at *
              have hw1 := fun (W : World) h hs => WS wo.heap.size wo.heap.size l [49] W h (by simp; omega) hs
              have hw2 := fun (W : World) h hs => WS wo.heap.size wo.heap.size (l ++ [49]) x W h (by simp; omega) hs
              have HW1 := Lib.hid hw1; have HW2 := Lib.hid hw2
              clear hw1 hw2 hst2 htop hEi hZ
              go_wp2_with fail
              refine (HW1.out _ hI hsz).mono ?_
              rintro e w2 ⟨rfl, hI2, hb3⟩
              have hsz2 := hb3.size
              go_wp2_with fail
              refine (HW2.out _ hI2 (Nat.le_trans hsz hsz2)).mono ?_
              rintro e w3 ⟨rfl, hI3, hb4⟩
              go_wp2_with fail
              go_roundw
              case rel => exact ⟨i + 1, by omega, by go_num, by rw [hst.out]; exact hI3, (hbw.trans hb3).trans hb4⟩
              case measure => simp [intOf]; omega
            · have hE := encTo_out ls (k := i) (by rw [HN.out]; omega)
              have hF := enc_all ls
              rw [← hE] at hF
              generalize encTo ls i = l at *
              have HF := Lib.hid hF
              clear hE hF
              have hw1 := fun (W : World) h hs => WS wo.heap.size wo.heap.size l [48] W h (by simp; omega) hs
              have HW1 := Lib.hid hw1; clear hw1 hEi hZ
              go_wp2_with fail
              refine (HW1.out _ hI hsz).mono ?_
              rintro e w2 ⟨rfl, hI2, hb3⟩
              have hsz2 := hb3.size
              go_wp2_with fail
              refine (Tryz.Builder_String_any wo.heap.size wo.heap.size (l ++ [48]) _ hI2 (Nat.le_trans hsz hsz2)).mono ?_
              rintro e w3 ⟨rfl, hb4⟩
              go_wp2_with fail
              go_ret2
              exact ⟨by rw [HF.out]; rfl, hb.trans (((hbw.trans hb3).trans hb4).mono hb.size)⟩

set_option maxHeartbeats 800000 in
set_option maxRecDepth 100000 in
/-- no element: nil or not -/
theorem List_none (w : World) (a : Option Addr) (cap : Nat) :
    Calls Tryz.prog 95 #[.slice a 0 cap] w fun e w' => e = .returned (.tuple #[.string (S (enc [])), .int .i64 0]) ∧ Below w.heap.size w w' := by
  go_enter Tryz.func95, Tryz.ntmps95
  go_wp2
  go_loop [14] (fun i => i = .int .i64 0) (fun _ => 0)
  case atStart => rfl
  case round =>
    subst hrel
    go_wp2
    go_loop [6, 24] (fun z i => i = .int .i64 0 ∧ z = .int .i64 1) (fun _ _ => 0)
    case atStart => exact ⟨rfl, rfl⟩
    case round =>
      obtain ⟨rfl, rfl⟩ := hrel
      have HBK := Lib.hid (heap_alloc_new w (.cells #[.pointer none, .slice none 0 0] 131))
      go_wp2_with (go_at_call 151; refine (Tryz.Builder_Grow_fresh w.heap.size w.heap.size 1 _ (Nat.le_refl _) HBK.out (by simp) (by omega)).mono ?_; rintro e w1 ⟨rfl, hB1, hb1⟩)
      have hb2 : Below w.heap.size w w1 := ((Below.refl _ w).alloc (Nat.le_refl _) _).trans hb1
      clear hb1
      go_loop [40] (fun i => i = .int .i64 0) (fun _ => 0)
      case atStart => rfl
      case round =>
        subst hrel
        have hw1 := fun (W : World) h hs => WS w.heap.size w.heap.size [] [48] W h (by simp) hs
        have HW1 := Lib.hid hw1; clear hw1
        go_wp2_with fail
        refine (HW1.out _ (Or.inr hB1) hb2.size).mono ?_
        rintro e w2 ⟨rfl, hI2, hb3⟩
        have hsz2 := hb3.size
        go_wp2_with fail
        refine (Tryz.Builder_String_any w.heap.size w.heap.size [48] _ hI2 (Nat.le_trans hb2.size hsz2)).mono ?_
        rintro e w3 ⟨rfl, hb4⟩
        go_wp2_with fail
        go_ret2
        exact ⟨rfl, (hb2.trans hb3).trans hb4⟩
end Go.Proofs.YtmhoacnbmbhcjaaGreatDoor

namespace Go.Proofs.YtmhoacnbmbhcjaaGreatDoor
open Go.RowKit Pl

theorem aw_number (W : World) : Calls Tryz.prog 158 #[.int .i64 2] W fun e w' => e = .returned (.tuple #[.string ⟨#[49, 48, 49, 48, 48]⟩, .int .i64 0]) ∧ Below W.heap.size W w' := Number_yes 2 W (by omega)
theorem aw_head (W : World) : Calls Tryz.prog 203 #[.string ⟨#[49, 49, 48, 48, 49, 48, 48]⟩] W fun e w' => e = .returned (.tuple #[.string ⟨#[49, 48, 48]⟩, .int .i64 0]) ∧ Below W.heap.size W w' := Head_yes (S [49, 49, 48, 48, 49, 48, 48]) W (by decide)
theorem aw_tail (W : World) : Calls Tryz.prog 204 #[.string ⟨#[49, 49, 48, 48, 49, 48, 48]⟩] W fun e w' => e = .returned (.tuple #[.string ⟨#[49, 48, 48]⟩, .int .i64 0]) ∧ Below W.heap.size W w' := Tail_yes (S [49, 49, 48, 48, 49, 48, 48]) W (by decide)
theorem aw_list (W : World) (b : Nat) (h : StrAt W b 0 [[48], [49, 48, 48]]) : Calls Tryz.prog 95 #[.slice (some ⟨b, 0, none⟩) 2 2] W fun e w' => e = .returned (.tuple #[.string ⟨#[49, 48, 49, 49, 48, 48, 48]⟩, .int .i64 0]) ∧ Below W.heap.size W w' := List_yes W b 0 2 _ h (by decide) (by unfold AllV; decide) (by decide)
theorem aw_valid (b : Bool) (l : List UInt8) (W : World) (hl : l.length ≤ 10) (h : vld l = b) : Calls Tryz.prog 96 #[.string (S l)] W fun e w' => e = .returned (.bool b) ∧ Below W.heap.size W w' := Valid_is b (S l) W (by rw [S_size]; omega) h

end Go.Proofs.YtmhoacnbmbhcjaaGreatDoor

namespace Go.Proofs.YtmhoacnbmbhcjaaGreatDoor
open Go.RowKit Pl

theorem cat3 (a b : ByteArray) : ((49 :: (a.data.toList ++ b.data.toList)) == (({ data := #[49] } : ByteArray) ++ a ++ b).toList) = true := by
  rw [ByteArray.toList_eq, beq_iff_eq]
  simp
theorem rValid_is (b : Bool) (s : ByteArray) (w : World) (hs : s.size ≤ 281474976710656) (h : vld s.data.toList = b) :
    Calls Tryz.prog 28 #[.string s] w fun e w' => e = .returned (.bool b) ∧ w = w' := by
  rw [← h]; exact rValid_any s w hs

end Go.Proofs.YtmhoacnbmbhcjaaGreatDoor

namespace Go.Proofs.YtmhoacnbmbhcjaaGreatDoor
open Go.RowKit Pl

theorem Tryz.infoByte : (Tryz.prog.info? 5).map (fun i => (i.zero, i.size, i.bytes)) = some (some (.int .u8 0), 1, 1) := by kernel_rfl
def numTo (k : Nat) : List UInt8 := (List.replicate k [49, 48]).flatten
theorem numTo_succ (k : Nat) : numTo (k + 1) = numTo k ++ [49, 48] := by unfold numTo; rw [List.replicate_succ']; simp
theorem num_to (k : Nat) : num k = numTo k ++ [48] := rfl
theorem numTo_len (k : Nat) : (numTo k).length = 2 * k := by
  induction k with
  | zero => rfl
  | succ k ih => rw [numTo_succ]; simp [ih]; omega

theorem app_below {B : Nat} {w wr w1 : World} {e : TypeId} {size : Nat} {v : Value} {n : Nat} {xs : List Value} {o : Obj} (hnx : Below B w wr) (hB : B ≤ wr.heap.size) (hown : wr.ownsRow B e size v n xs) (hgrow : (wr.alloc o).grownBy w1 v.ownBlock) : Below B w w1 :=
  (hnx.alloc hB o).grown hgrow (by simp; omega) (fun k h => (hown.lt k h).1)
theorem own_bytes {w : World} {base n : Nat} {e : TypeId} {v : Value} {l : List UInt8} (h : w.ownsRow base e 1 v n (Lib.byteCells l)) (hl : 0 < n) :
    ∃ g cap, v = .slice (some ⟨g, 0, none⟩) l.length cap ∧ n = l.length ∧ ∀ j (hj : j < l.length), w.cell? ((⟨g, 0, none⟩ : Addr).add j) = some (.int .u8 (l[j].toNat : Int)) := by
  have hc := fun (g : Nat) => h.cells (g := g)
  obtain ⟨h1, h2⟩ := h
  rw [Lib.byteCells_length, Nat.mul_one] at h1
  rcases h2 with ⟨_, h0⟩ | ⟨g, cap, cur, rfl, _⟩
  · omega
  · refine ⟨g, cap, by rw [h1], h1.symm, fun j hj => hc g (by simp [Value.ownBlock]) j _ (by simp [Lib.byteCells, hj])⟩

set_option maxHeartbeats 1600000 in
set_option maxRecDepth 100000 in
theorem rNumber_yes (n : Nat) (w : World) (h : n ≤ 999999) :
    Calls Tryz.prog 92 #[.int .i64 n] w fun e w' => e = .returned (.string (S (num n))) ∧ Below w.heap.size w w' := by
  obtain ⟨i0, hi, hz0, hz1, hz2⟩ := info_parts Tryz.infoByte
  go_enter Tryz.func92, Tryz.ntmps92
  go_wp2_with (at_make; refine wpList_make_own _ rfl _ _ 105 rfl w.heap.size 5 i0 (.int .u8 0) 1 Tryz.underlying105 hi hz0 hz1 _ _ _ (2 * n + 1) rfl rfl (by omega) ?b2 ?b3 (Nat.le_refl _) ?_)
  case b2 => rw [hz2]; omega
  case b3 => unfold maxLen; omega
  intro w0 hown0 hgrow0
  go_wp2
  go_loopw [3, 4] (fun out i wr => ∃ k : Nat, k ≤ n ∧ i = .int .i64 k ∧ wr.ownsRow w.heap.size 5 1 out (2 * k) (Lib.byteCells (numTo k)) ∧ Below w.heap.size w wr) (fun _ i _ => n - (intOf i).toNat)
  case atStart => exact ⟨0, Nat.zero_le _, rfl, hown0, (Below.refl _ _).grown hgrow0 (Nat.le_refl _) (fun k h => by cases h)⟩
  case round =>
    obtain ⟨k, hk, rfl, hown, hnx⟩ := hrel
    by_cases hlt : k < n
    · go_wp2_with (at_builtin; refine wpList_append_own _ rfl _ _ 105 rfl w.heap.size 5 i0 (.int .u8 0) 1 1 Tryz.underlying105 hi hz0 hz1 hz2 rfl (by decide) _ _ _ rfl (hown.alloc _) ⟨wr.heap.size, 0, none⟩ 2 2 [.int .u8 49, .int .u8 48] rfl rfl ?c1 ?c2 ?c3 ?c4 ?c5 ?_)
      case c1 =>
        intro t u ht
        match t, ht with
        | 0, ht => simp at ht; subst ht; simp [Addr.add]
        | 1, ht => simp at ht; subst ht; simp [Addr.add]
      case c2 => intro u hu; simp at hu; rcases hu with rfl | rfl <;> rfl
      case c3 => unfold maxLen; omega
      case c4 => omega
      case c5 => have := hnx.size; simp; omega
      intro v' w1 hown' hgrow _
      have hb1 := app_below hnx hnx.size hown hgrow
      have ho1 : w1.ownsRow w.heap.size 5 1 v' (2 * (k + 1)) (Lib.byteCells (numTo (k + 1))) := by
        rw [numTo_succ, Lib.byteCells_append]; exact hown'
      clear hown' hgrow hown hnx
      have HO := Lib.hid ho1; clear ho1
      go_wp2
      go_roundw
      case rel => exact ⟨k + 1, by omega, by go_num, HO.out, hb1⟩
      case measure => simp [intOf]; omega
    · obtain rfl : k = n := by omega
      go_wp2_with (at_builtin; refine wpList_append_own _ rfl _ _ 105 rfl w.heap.size 5 i0 (.int .u8 0) 1 1 Tryz.underlying105 hi hz0 hz1 hz2 rfl (by decide) _ _ _ rfl (hown.alloc _) ⟨wr.heap.size, 0, none⟩ 1 1 [.int .u8 48] rfl rfl ?d1 ?d2 ?d3 ?d4 ?d5 ?_)
      case d1 =>
        intro t u ht
        match t, ht with
        | 0, ht => simp at ht; subst ht; simp [Addr.add]
      case d2 => intro u hu; simp at hu; subst hu; rfl
      case d3 => unfold maxLen; omega
      case d4 => omega
      case d5 => have := hnx.size; simp; omega
      intro v' w1 hown' hgrow _
      have hb1 := app_below hnx hnx.size hown hgrow
      have ho1 : w1.ownsRow w.heap.size 5 1 v' (2 * k + 1) (Lib.byteCells (num k)) := by
        rw [num_to, Lib.byteCells_append]; exact hown'
      clear hown' hgrow hown hnx
      obtain ⟨g, cap, rfl, hn, hcell⟩ := own_bytes ho1 (by omega)
      have hcv := run_convert_bytes_back (P := Tryz.prog) w1 105 9 5 ⟨g, 0, none⟩ cap (num k) Tryz.underlying105 Tryz.underlying5 Tryz.underlying9 hcell
      generalize hL : num k = l at *
      have HN := Lib.hid hn; have HL := Lib.hid hL; clear hn hL ho1 hcell
      go_wp2
      go_ret
      exact ⟨ret_str (by rw [HL.out]), hb1⟩

end Go.Proofs.YtmhoacnbmbhcjaaGreatDoor

namespace Go.Proofs.YtmhoacnbmbhcjaaGreatDoor
open Go.RowKit Pl
theorem same_str (l : List UInt8) : (!(l == l)) = false := by simp
/-- 'append(v, s...)', s a string, at a step of a region that draws -/
theorem step_append_own_string {P : Program} {ops : Array Oper} {o : Oper} {a : Act} {w : World} {K : Act → World → Prop} {Q : Exit → Act → World → Prop} {E : Prop} (hgd : o.guard = none) (sl x : Operand) (t u : TypeId)
    (ho : o.op = .call { callee := .builtin .append, args := #[sl, x], argTypes := #[t, u] })
    (base : Nat) (e : TypeId) (i : TypeInfo) (ht : P.underlying t = some (.slice e)) (hu : P.underlying u = some .string) (hi : P.info? e = some i) (hz : i.zero = some (.int .u8 0))
    (hsize : i.size = 1) (hby : i.bytes = 1)
    (v : Value) (n : Nat) (xs : List Value) (hs : a.eval sl = v) (hown : w.ownsRow base e 1 v n xs) (s : ByteArray) (hx : a.eval x = .string s)
    (h63 : n + s.size ≤ maxLen) (hbytes : n + s.size ≤ 140737488355328) (hbase : base ≤ w.heap.size)
    (h : ∀ v' w', w'.ownsRow base e 1 v' (n + s.size) (xs ++ Lib.strCells s) → w.grownBy w' v.ownBlock → K (a.put o.dst v') w') :
    if Region.wanted o (yielded ops a.tmps) = true then Oper.wp P o a w K Q else E := by
  have hw : Region.wanted o (yielded ops a.tmps) = true := by simp [Region.wanted, hgd]
  rw [if_pos hw]
  obtain ⟨v', w', hr, h2, h3, _⟩ := Lib.run_append_own_string (P := P) (w := w) base t u o.type e i ht hu hi hz hsize hby v n xs hown s h63 hbytes hbase
  unfold Oper.wp execOp
  simp only [ho, resolve, invoke, builtin, Sem.run_bind, Sem.run_pure, Result.andThen_ok, List.map_toArray, List.map_cons, List.map_nil, hs, hx, hr]
  exact h v' w' h2 h3

set_option maxHeartbeats 3200000 in
set_option maxRecDepth 100000 in
theorem rList_big (w : World) (b off cap : Nat) (ls : List (List UInt8)) (hc : StrAt w b off ls) (hm : ls.length ≤ 281474976710656) (hz : (enc ls).length ≤ 100000000) :
    Calls Tryz.prog 136 #[.slice (some ⟨b, off, none⟩) ls.length cap] w fun e w' => e = .returned (.string (S (enc ls))) ∧ Below w.heap.size w w' := by
  obtain ⟨i0, hi, hz0, hz1, hz2⟩ := info_parts Tryz.infoByte
  generalize hnn : ls.length = n at *
  have HN := Lib.hid hnn; clear hnn
  have HC := Lib.hid hc; have HZ := Lib.hid hz; clear hc hz
  go_enter Tryz.func136, Tryz.ntmps136
  go_wp2
  go_loopw [3, 4] (fun v i wr => ∃ k : Nat, k ≤ n ∧ i = .int .i64 k ∧ wr.ownsRow w.heap.size 5 1 v (encTo ls k).length (Lib.byteCells (encTo ls k)) ∧ Below w.heap.size w wr) (fun _ i _ => n - (intOf i).toNat)
  case atStart => exact ⟨0, Nat.zero_le _, rfl, World.ownsRow_nil _ _ _ _, Below.refl _ _⟩
  case round =>
    obtain ⟨k, hk, rfl, hown, hbw⟩ := hrel
    have hsz := hbw.size
    by_cases hlt : k < n
    · have hcell := (HC.out.below hbw).2 k (by rw [HN.out]; exact hlt)
      have hbb := Nat.lt_of_lt_of_le HC.out.1 (Nat.le_refl _)
      have hst := Lib.hid (encTo_succ ls k (by rw [HN.out]; exact hlt))
      have htop := Nat.le_trans (encTo_le ls (k + 1)) HZ.out
      have hst2 := encTo_len ls k (by rw [HN.out]; exact hlt)
      have ht2 : (encTo ls k).length + (1 + (ls.getD k []).length) + 1 ≤ 100000000 := by omega
      clear htop hst2
      generalize ls.getD k [] = x at *
      generalize encTo ls k = l at *
      have i0' : (0 : Int) ≤ (k : Int) := by omega
      have i1 : (k : Int) < (n : Int) := by omega
      go_wp2_with fail
      have hne : ∀ g, Value.ownBlock u3 = some g → some b ≠ some g := fun g h e => by have := (hown.lt g h).1; have := Option.some.inj e; omega
      have hbr : b < wr.heap.size := Nat.lt_of_lt_of_le hbb hsz
      go_region_held3 (fun w' => w'.cell? ⟨b, off + k, none⟩ = some (.string (S x)))
        (first
          | go_keep
          | (rw [hgrow2.cell_far _ (by have h8 := hgrow.size; simp at h8 ⊢; omega) (by intro e; have h8 := (hown1.lt gg rfl).1; have h9 : b = gg := Option.some.inj e; omega)]; assumption)
          | (rw [hgrow.cell_far _ (by simp; omega) (by intro e; exact hne _ e.symm rfl)]; assumption))
        (first
          | (refine step_append_lies _ (by rfl) _ _ _ (by rfl) w.heap.size 5 i0 _ 1 1 Tryz.underlying105 hi hz0 hz1 hz2 rfl (by omega) _ _ _ (by rfl) ((hown.alloc _).drew)
              ⟨wr.heap.size, 0, none⟩ 1 1 [.int .u8 49] (by rfl) (by rfl) (World.news_of_block (cs := #[.int .u8 49]) (t := 5) (fr := (0, 0)) (heap_alloc_new wr _)) (by simp [Value.oneCell'])
              (by omega) (by unfold maxLen; omega) (by omega) (by simp; omega) (wr.heap.size + 1) (by simp) ?_; intro gg cap1 w1 hown1 hgrow hat hlt1)
          | (refine step_append_own_string (by rfl) _ _ _ _ (by rfl) w.heap.size 5 i0 Tryz.underlying105 Tryz.underlying9 hi hz0 hz1 hz2 _ _ _ (by rfl) (by exact hown1) (S x) (by rfl) (by rw [S_size]; unfold maxLen; omega) (by rw [S_size]; omega) (by have h8 := hgrow.size; simp at h8 ⊢; omega) ?_; intro v2 w2 hown2 hgrow2))
      have hb3 : Below w.heap.size w w1 := (hbw.alloc hsz _).drew.grown hgrow (by simp; omega) (fun g h => (hown.lt g h).1)
      have hgrow3 : w1.grownBy w2 (Value.slice (some ⟨gg, 0, none⟩) (l.length + 1) cap1).ownBlock := hgrow2
      have hb4 : Below w.heap.size w w2 := hb3.grown hgrow3 (by have h8 := hgrow.size; simp at h8 ⊢; omega) (fun g h => (hown1.lt g h).1)
      have ho : w2.ownsRow w.heap.size 5 1 v2 (encTo ls (k + 1)).length (Lib.byteCells (encTo ls (k + 1))) := by
        have h9 := hown2
        rw [S_size] at h9
        have e1 : (l ++ [49] ++ x).length = l.length + 1 + x.length := by simp; omega
        have e2 : Lib.byteCells (l ++ [49] ++ x) = Lib.byteCells l ++ [.int .u8 49] ++ Lib.strCells (S x) := by rw [Lib.byteCells_append, Lib.byteCells_append]; rfl
        rw [hst.out, e1, e2]
        exact h9
      have HO := Lib.hid ho
      clear hgrow hgrow2 hgrow3 hown hown1 hown2 hb3 ho
      go_wp2
      go_roundw
      case rel => exact ⟨k + 1, by omega, by go_num, HO.out, hb4⟩
      case measure => simp [intOf]; omega
    · have hE := encTo_out ls (k := k) (by rw [HN.out]; omega)
      have hF := enc_all ls
      rw [← hE] at hF
      have hz' := encTo_le ls k
      rw [hF] at hz'
      have hZ2 := HZ.out
      rw [hF, List.length_append] at hZ2
      simp only [List.length_cons, List.length_nil] at hZ2
      have HF := Lib.hid hF
      clear hE hz' hF
      generalize encTo ls k = l at *
      go_wp2_with (at_builtin; refine wpList_append_own _ rfl _ _ 105 rfl w.heap.size 5 i0 (.int .u8 0) 1 1 Tryz.underlying105 hi hz0 hz1 hz2 rfl (by decide) _ _ _ rfl (hown.alloc _) ⟨wr.heap.size, 0, none⟩ 1 1 [.int .u8 48] rfl rfl ?d1 ?d2 ?d3 ?d4 ?d5 ?_)
      case d1 =>
        intro t u ht
        match t, ht with
        | 0, ht => simp at ht; subst ht; simp [Addr.add]
      case d2 => intro u hu; simp at hu; subst hu; rfl
      case d3 => unfold maxLen; omega
      case d4 => omega
      case d5 => simp; omega
      intro v' w1 hown' hgrow _
      have hb1 := app_below hbw hsz hown hgrow
      have ho1 : w1.ownsRow w.heap.size 5 1 v' (l.length + 1) (Lib.byteCells (l ++ [48])) := by
        rw [Lib.byteCells_append]; exact hown'
      clear hown' hgrow hown hbw
      obtain ⟨g, cap, rfl, hn, hcell⟩ := own_bytes ho1 (by omega)
      have hcv := run_convert_bytes_back (P := Tryz.prog) w1 105 9 5 ⟨g, 0, none⟩ cap (l ++ [48]) Tryz.underlying105 Tryz.underlying5 Tryz.underlying9 hcell
      clear hn ho1 hcell
      generalize hL : l ++ [48] = q at *
      clear hL
      go_wp2
      go_ret
      exact ⟨ret_str (by rw [HF.out]), hb1⟩
theorem rList_yes (w : World) (b off cap : Nat) (ls : List (List UInt8)) (hc : StrAt w b off ls) (hm : ls.length ≤ 281474976710656) (hz : (enc ls).length ≤ 2000000) :
    Calls Tryz.prog 136 #[.slice (some ⟨b, off, none⟩) ls.length cap] w fun e w' => e = .returned (.string (S (enc ls))) ∧ Below w.heap.size w w' :=
  rList_big w b off cap ls hc hm (by omega)

set_option maxHeartbeats 800000 in
set_option maxRecDepth 100000 in
theorem rList_none (w : World) (a : Option Addr) (cap : Nat) :
    Calls Tryz.prog 136 #[.slice a 0 cap] w fun e w' => e = .returned (.string ⟨#[48]⟩) ∧ Below w.heap.size w w' := by
  obtain ⟨i0, hi, hz0, hz1, hz2⟩ := info_parts Tryz.infoByte
  go_enter Tryz.func136, Tryz.ntmps136
  go_wp2
  go_loop [3, 4] (fun v i => w.ownsRow w.heap.size 5 1 v 0 [] ∧ i = .int .i64 0) (fun _ _ => 0)
  case atStart => exact ⟨World.ownsRow_nil w w.heap.size 5 1, rfl⟩
  case round =>
    obtain ⟨hown, rfl⟩ := hrel
    go_wp2_with (at_builtin; refine wpList_append_own _ rfl _ _ 105 rfl w.heap.size 5 i0 (.int .u8 0) 1 1 Tryz.underlying105 hi hz0 hz1 hz2 rfl (by decide) _ _ _ rfl (hown.alloc _) ⟨w.heap.size, 0, none⟩ 1 1 [.int .u8 48] rfl rfl ?d1 ?d2 ?d3 ?d4 ?d5 ?_)
    case d2 => rfl
    case d3 => unfold maxLen; omega
    intro v' w1 hown' hgrow _
    have hb1 := app_below (Below.refl w.heap.size w) (Nat.le_refl _) hown hgrow
    have ho1 : w1.ownsRow w.heap.size 5 1 v' 1 (Lib.byteCells [48]) := hown'
    clear hown' hgrow hown
    obtain ⟨g, cap, rfl, hn, hcell⟩ := own_bytes ho1 (by omega)
    have hcv : (convert 105 9 (.slice (some ⟨g, 0, none⟩) 1 cap)).run Tryz.prog w1 = .ok (.string ⟨#[48]⟩) w1 := run_convert_bytes_back (P := Tryz.prog) w1 105 9 5 ⟨g, 0, none⟩ cap [48] Tryz.underlying105 Tryz.underlying5 Tryz.underlying9 hcell
    clear hn ho1 hcell
    go_wp2
    go_ret
    exact ⟨rfl, hb1⟩
end Go.Proofs.YtmhoacnbmbhcjaaGreatDoor

namespace Go.Proofs.YtmhoacnbmbhcjaaGreatDoor
open Go.RowKit Pl

theorem Tryz.infoStr : (Tryz.prog.info? 9).map (fun i => (i.zero, i.size, i.bytes)) = some (some (.string ⟨#[]⟩), 1, 16) := by kernel_rfl
theorem own_empty {w : World} {base : Nat} {e : TypeId} {size : Nat} {v : Value} {xs : List Value} (h : w.ownsRow base e size v 0 xs) : ∃ b d, v = .slice b 0 d := by
  rcases h.2 with ⟨h1, _⟩ | ⟨g, cap, cur, h1, _⟩
  · exact ⟨_, _, h1⟩
  · exact ⟨_, _, h1⟩
theorem mstep1 (q x : Nat) : min ((q : Int) + 1 + (x : Int)) 2000001 = ((min (q + 1 + x) 2000001 : Nat) : Int) := by omega
theorem mstep2 (q : Nat) : min q 2000001 ≤ 2000001 := Nat.min_le_right _ _
theorem mstep {q u x : Nat} (h : min (q + 1) 2000001 = u) : min ((u : Int) + 1 + (x : Int)) 2000001 = ((min (q + (1 + x) + 1) 2000001 : Nat) : Int) := by omega
theorem mtop {q : Nat} (h : 2000000 < q + 1) : min (q + 1) 2000001 = 2000001 := by omega
theorem mlow {q : Nat} (h : q + 1 ≤ 2000000) : min (q + 1) 2000001 = q + 1 := by omega
theorem mlow2 {q : Nat} (h : q + 1 ≤ 2000000) : decide ((2000000 : Int) < (q : Int) + 1) = false := by rw [decide_eq_false_iff_not]; omega
/-- strings as cells -/
def strsV (ls : List (List UInt8)) : List Value := ls.map fun l => Value.string (S l)
theorem strsV_len (ls : List (List UInt8)) : (strsV ls).length = ls.length := by simp [strsV]

theorem own_strs {w : World} {base n : Nat} {e : TypeId} {v : Value} {ls : List (List UInt8)} (h : w.ownsRow base e 1 v n (strsV ls)) (hl : 0 < n) :
    ∃ g cap, v = .slice (some ⟨g, 0, none⟩) ls.length cap ∧ n = ls.length ∧ base ≤ g ∧ StrAt w g 0 ls := by
  have hc := fun (g : Nat) => h.cells (g := g)
  have hlt := h.lt
  obtain ⟨h1, h2⟩ := h
  rw [strsV_len, Nat.mul_one] at h1
  rcases h2 with ⟨_, h0⟩ | ⟨g, cap, cur, rfl, _⟩
  · omega
  · refine ⟨g, cap, by rw [h1], h1.symm, (hlt g rfl).1, (hlt g rfl).2, fun k hk => ?_⟩
    have := hc g (by simp [Value.ownBlock]) k (.string (S (ls.getD k []))) (by simp [strsV, List.getD, hk])
    rw [show ((⟨g, 0, none⟩ : Addr).add k) = ⟨g, 0 + k, none⟩ from by unfold Addr.add; split <;> simp_all] at this
    exact this
theorem strs_news {w : World} {b off : Nat} {ls : List (List UInt8)} (h : StrAt w b off ls) (o : Obj) : ∀ j u, (strsV ls)[j]? = some u → (w.alloc o).cell? ((⟨b, off, none⟩ : Addr).add j) = some u := by
  intro j u hu
  have hj : j < ls.length := by
    have := (List.getElem?_eq_some_iff.1 hu).1
    rwa [strsV_len] at this
  have := h.2 j hj
  rw [show ((⟨b, off, none⟩ : Addr).add j) = ⟨b, off + j, none⟩ from by unfold Addr.add; split <;> simp_all]
  rw [World.cell?_alloc_past _ _ _ h.1, this]
  simpa [strsV, List.getD, hj] using hu
theorem strs_one (ls : List (List UInt8)) : ∀ u ∈ strsV ls, u.oneCell' = true := by
  intro u hu
  simp only [strsV, List.mem_map] at hu
  obtain ⟨l, _, rfl⟩ := hu
  rfl
theorem List_zero (w : World) (a : Option Addr) (cap : Nat) :
    Calls Tryz.prog 95 #[.slice a 0 cap] w fun e w' => e = .returned (.tuple #[.string ⟨#[48]⟩, .int .i64 0]) ∧ Below w.heap.size w w' := List_none w a cap

end Go.Proofs.YtmhoacnbmbhcjaaGreatDoor
