/- The contracts of Clone, Head, Tail, Pairs, Value, Cons (package tree) and Head, Tail, Pairs, Value (the reference). By an AI agent. -/
import Derived.Test.YtlfoigkpfooopaaGreatDoorParts
import Derived.Test.YtlfoigkpfooopaaGreatDoorShelf
import Derived.Shelf.Vars
namespace Go.Proofs.YtlfoigkpfooopaaGreatDoor
open Go.RowKit Pl

theorem bstep {w w1 w2 : World} (h1 : Below w.heap.size w w1) (h2 : Below w1.heap.size w1 w2) : Below w.heap.size w w2 := h1.trans (h2.mono h1.size)
theorem vld_size {s : ByteArray} (h : vld s.data.toList = true) : s.size ≤ 2000000 := by have := (vld_iff.1 h).1; rwa [len_eq] at this
theorem Valid_is (b : Bool) (s : ByteArray) (w : World) (hs : s.size ≤ 281474976710656) (h : vld s.data.toList = b) :
    Calls Tryz.prog 48 #[.string s] w fun e w' => e = .returned (.bool b) ∧ Below w.heap.size w w' := by
  rw [← h]; exact Valid_any s w hs

set_option maxHeartbeats 400000 in
set_option maxRecDepth 100000 in
theorem Clone_any (s : ByteArray) (w : World) (hs : s.size ≤ 281474976710656) :
    Calls Tryz.prog 51 #[.string s] w fun e w' => e = .returned (.string s) ∧ Below w.heap.size w w' := by
  go_enter Tryz.func51, Tryz.ntmps51
  go_wp2_with (go_at_call 78; refine (Tryz.stringslite_Clone s _ (by omega)).mono ?_; rintro e w1 ⟨rfl, hb⟩)
  go_ret
  exact ⟨rfl, hb⟩

theorem S_size (l : List UInt8) : (S l).size = l.length := by simp [ByteArray.size]
theorem hd_le {l : List UInt8} (h : vld l = true) : (hd l).length ≤ 2000000 ∧ (tl l).length ≤ 2000000 := ⟨(vld_iff.1 (vld_hd h).1).1, (vld_iff.1 (vld_hd h).2).1⟩

set_option maxHeartbeats 400000 in
set_option maxRecDepth 100000 in
theorem Head_no (s : ByteArray) (w : World) (hs : s.size ≤ 281474976710656) (hv : vld s.data.toList = false) :
    Calls Tryz.prog 102 #[.string s] w fun e w' => e = .returned (.tuple #[.string (S []), .int .i64 1]) ∧ Below w.heap.size w w' := by
  have HV := Lib.hid hv; clear hv
  go_enter Tryz.func102, Tryz.ntmps102
  go_wp2_with (go_at_call 48; refine (Valid_is false s _ hs HV.out).mono ?_; rintro e w1 ⟨rfl, hb⟩)
  go_ret2
  exact ⟨rfl, hb⟩
set_option maxHeartbeats 400000 in
set_option maxRecDepth 100000 in
theorem Head_yes (s : ByteArray) (w : World) (hv : vld s.data.toList = true) :
    Calls Tryz.prog 102 #[.string s] w fun e w' => e = .returned (.tuple #[.string (S (hd s.data.toList)), .int .i64 0]) ∧ Below w.heap.size w w' := by
  have hs := vld_size hv
  have hz := (hd_le hv).1
  generalize hL : s.data.toList = L at *
  have HV := Lib.hid hv; clear hv
  have HL := Lib.hid hL; clear hL
  have hp := fun W : World => (parts_any s W (by rw [HL.out]; exact HV.out))
  rw [HL.out] at hp
  have HP := Lib.hid hp; clear hp
  generalize hd L = A at *
  generalize tl L = B at *
  go_enter Tryz.func102, Tryz.ntmps102
  go_wp2_with (first | (go_at_call 48; refine (Valid_is true s _ (by omega) (by rw [HL.out]; exact HV.out)).mono ?_; rintro e w1 ⟨rfl, hb1⟩) | (go_at_call 50; refine (HP.out _).mono ?_; rintro e w2 ⟨rfl, hb2⟩) | (go_at_call 51; refine (Clone_any _ _ (by rw [S_size]; omega)).mono ?_; rintro e w3 ⟨rfl, hb3⟩))
  go_ret2
  exact ⟨rfl, bstep (bstep hb1 hb2) hb3⟩
set_option maxHeartbeats 400000 in
set_option maxRecDepth 100000 in
theorem Tail_no (s : ByteArray) (w : World) (hs : s.size ≤ 281474976710656) (hv : vld s.data.toList = false) :
    Calls Tryz.prog 103 #[.string s] w fun e w' => e = .returned (.tuple #[.string (S []), .int .i64 1]) ∧ Below w.heap.size w w' := by
  have HV := Lib.hid hv; clear hv
  go_enter Tryz.func103, Tryz.ntmps103
  go_wp2_with (go_at_call 48; refine (Valid_is false s _ hs HV.out).mono ?_; rintro e w1 ⟨rfl, hb⟩)
  go_ret2
  exact ⟨rfl, hb⟩
set_option maxHeartbeats 400000 in
set_option maxRecDepth 100000 in
theorem Tail_yes (s : ByteArray) (w : World) (hv : vld s.data.toList = true) :
    Calls Tryz.prog 103 #[.string s] w fun e w' => e = .returned (.tuple #[  .string (S (tl s.data.toList)), .int .i64 0]) ∧ Below w.heap.size w w' := by
  have hs := vld_size hv
  have hz := (hd_le hv).2
  generalize hL : s.data.toList = L at *
  have HV := Lib.hid hv; clear hv
  have HL := Lib.hid hL; clear hL
  have hp := fun W : World => (parts_any s W (by rw [HL.out]; exact HV.out))
  rw [HL.out] at hp
  have HP := Lib.hid hp; clear hp
  generalize hd L = A at *
  generalize tl L = B at *
  go_enter Tryz.func103, Tryz.ntmps103
  go_wp2_with (first | (go_at_call 48; refine (Valid_is true s _ (by omega) (by rw [HL.out]; exact HV.out)).mono ?_; rintro e w1 ⟨rfl, hb1⟩) | (go_at_call 50; refine (HP.out _).mono ?_; rintro e w2 ⟨rfl, hb2⟩) | (go_at_call 51; refine (Clone_any _ _ (by rw [S_size]; omega)).mono ?_; rintro e w3 ⟨rfl, hb3⟩))
  go_ret2
  exact ⟨rfl, bstep (bstep hb1 hb2) hb3⟩

theorem contains_cons (b : UInt8) (l sub : List UInt8) : Lib.contains (b :: l) sub = (sub.isPrefixOf (b :: l) || Lib.contains l sub) := by
  have hg := Lib.index_ge l sub
  unfold Lib.contains
  rw [Lib.index]
  cases hp : sub.isPrefixOf (b :: l) with
  | true => simp
  | false =>
    simp only [Bool.false_or]
    by_cases h : Lib.index l sub = -1
    · rw [h]; decide
    · rw [if_neg (by simp), if_neg (by simpa using h), decide_eq_decide]; omega
theorem ends_47 (n : Nat) : ∀ {l : List UInt8}, l.length ≤ n → fs l 1 = some l.length → Lib.contains l [49, 49] = !(alt l) := by
  induction n with
  | zero => intro l h1 h2; cases l with
    | nil => simp [fs] at h2
    | cons => simp at h1
  | succ n ih =>
    intro l h1 h2
    match l, h1, h2 with
    | [], _, h2 => simp [fs] at h2
    | [c], _, h2 => rw [contains_cons]; simp [alt, Lib.contains, Lib.index, List.isPrefixOf]
    | c :: d :: r, h1, h2 =>
      by_cases c0 : c = 48
      · subst c0; rw [fs_48, fs_zero] at h2; simp at h2
      · by_cases c1 : c = 49
        · subst c1
          by_cases d0 : d = 48
          · subst d0
            rw [fs_49, fs_48] at h2
            have h3 : fs r 1 = some r.length := by
              obtain ⟨x, hx, hx2⟩ := Option.map_eq_some_iff.1 h2
              obtain ⟨y, hy, hy2⟩ := Option.map_eq_some_iff.1 hx
              simp only [List.length_cons] at hx2
              rw [hy]; congr 1; omega
            rw [contains_cons, contains_cons, ih (by simp only [List.length_cons] at h1; omega) h3]
            simp [alt, List.isPrefixOf]
          · by_cases d1 : d = 49
            · subst d1; rw [contains_cons]; simp [alt, List.isPrefixOf]
            · rw [fs_49, fs_bad _ _ _ d0 d1] at h2; simp at h2
        · rw [fs_bad _ _ _ c0 c1] at h2; simp at h2

set_option maxHeartbeats 400000 in
set_option maxRecDepth 100000 in
theorem Value_no (s : ByteArray) (w : World) (hs : s.size ≤ 281474976710656) (hv : vld s.data.toList = false) :
    Calls Tryz.prog 104 #[.string s] w fun e w' => e = .returned (.tuple #[.int .i64 0, .int .i64 1]) ∧ Below w.heap.size w w' := by
  have HV := Lib.hid hv; clear hv
  go_enter Tryz.func104, Tryz.ntmps104
  go_wp2_with (go_at_call 48; refine (Valid_is false s _ hs HV.out).mono ?_; rintro e w1 ⟨rfl, hb⟩)
  go_ret2
  exact ⟨rfl, hb⟩
theorem Contains_is (s : ByteArray) (m : Int) (w : World) (hv : vld s.data.toList = true) (hm : w.cell? ⟨0, 0, none⟩ = some (.int .i64 m)) (b : Bool) (hb : alt s.data.toList = b) :
    Calls Tryz.prog 115 #[.string s, .string ⟨#[49, 49]⟩] w fun e w' => e = .returned (.bool (!b)) ∧ w' = w := by
  have hs := vld_size hv
  refine (Tryz.strings_Contains s ⟨#[49, 49]⟩ m w (by omega) hm).mono fun e w' ⟨h1, h2⟩ => ⟨?_, h2⟩
  rw [h1]
  show Ending.returned (.bool (Lib.contains s.data.toList [49, 49])) = _
  rw [ends_47 _ (Nat.le_refl _) (vld_iff.1 hv).2, hb]
theorem maxLen_cell {w : World} (h : w.ShapedOpen Tryz.prog) : ∃ m, w.cell? ⟨0, 0, none⟩ = some (.int .i64 m) :=
  cell_of_shapedOpen_int (zero := #[.int .i64 0]) (t := 3) h (of_decide_eq_true (by kernel_rfl)) (by kernel_rfl) rfl (by kernel_rfl) (by kernel_rfl) Tryz.underlying3
theorem cell_lt {w : World} {a : Addr} {v : Value} (h : w.cell? a = some v) : a.block < w.heap.size := by
  rcases Nat.lt_or_ge a.block w.heap.size with h1 | h1
  · exact h1
  · have : w.heap[a.block]? = none := by simp [h1]
    simp [World.cell?, this] at h
theorem cell_keep {w w1 : World} {a : Addr} {v : Value} (hb : Below w.heap.size w w1) (h : w.cell? a = some v) : w1.cell? a = some v := by
  rw [hb.cell (cell_lt h)]; exact h
set_option maxHeartbeats 400000 in
set_option maxRecDepth 100000 in
theorem Value_num (s : ByteArray) (m : Int) (w : World) (hv : vld s.data.toList = true) (hm : w.cell? ⟨0, 0, none⟩ = some (.int .i64 m)) (ha : alt s.data.toList = true) :
    Calls Tryz.prog 104 #[.string s] w fun e w' => e = .returned (.tuple #[.int .i64 (val s.data.toList), .int .i64 0]) ∧ Below w.heap.size w w' := by
  have hs := vld_size hv
  have hx : val s.data.toList = (s.size : Int) / 2 := by unfold val; rw [ha, if_pos rfl, len_eq]; omega
  have HX := Lib.hid hx; clear hx
  have HV := Lib.hid hv; clear hv
  have HA := Lib.hid ha; clear ha
  have HM := Lib.hid hm; clear hm
  go_enter Tryz.func104, Tryz.ntmps104
  go_wp2_with (first | (go_at_call 48; refine (Valid_is true s _ (by omega) HV.out).mono ?_; rintro e w1 ⟨rfl, hb1⟩) | (go_at_call 115; refine (Contains_is s m _ HV.out (cell_keep hb1 HM.out) true HA.out).mono ?_; rintro e w2 ⟨rfl, rfl⟩))
  go_ret2
  exact ⟨by rw [HX.out]; rfl, hb1⟩
set_option maxHeartbeats 400000 in
set_option maxRecDepth 100000 in
theorem Value_none (s : ByteArray) (m : Int) (w : World) (hv : vld s.data.toList = true) (hm : w.cell? ⟨0, 0, none⟩ = some (.int .i64 m)) (ha : alt s.data.toList = false) :
    Calls Tryz.prog 104 #[.string s] w fun e w' => e = .returned (.tuple #[.int .i64 0, .int .i64 4]) ∧ Below w.heap.size w w' := by
  have hs := vld_size hv
  have HV := Lib.hid hv; clear hv
  have HA := Lib.hid ha; clear ha
  have HM := Lib.hid hm; clear hm
  go_enter Tryz.func104, Tryz.ntmps104
  go_wp2_with (first | (go_at_call 48; refine (Valid_is true s _ (by omega) HV.out).mono ?_; rintro e w1 ⟨rfl, hb1⟩) | (go_at_call 115; refine (Contains_is s m _ HV.out (cell_keep hb1 HM.out) false HA.out).mono ?_; rintro e w2 ⟨rfl, rfl⟩))
  go_ret2
  exact ⟨rfl, hb1⟩

set_option maxHeartbeats 400000 in
set_option maxRecDepth 100000 in
theorem Cons_form (a b : ByteArray) (w : World) (ha : a.size ≤ 281474976710656) (hb : b.size ≤ 281474976710656) (h : (vld a.data.toList && vld b.data.toList) = false) :
    Calls Tryz.prog 99 #[.string a, .string b] w fun e w' => e = .returned (.tuple #[.string (S []), .int .i64 1]) ∧ Below w.heap.size w w' := by
  by_cases h1 : vld a.data.toList = true
  · have h2 : vld b.data.toList = false := by rw [h1, Bool.true_and] at h; exact h
    have H1 := Lib.hid h1; have H2 := Lib.hid h2; clear h1 h2 h
    go_enter Tryz.func99, Tryz.ntmps99
    go_wp2_with fail
    refine (Valid_is true a _ ha H1.out).mono ?_
    rintro e w1 ⟨rfl, hb1⟩
    go_wp2_with fail
    refine (Valid_is false b _ hb H2.out).mono ?_
    rintro e w2 ⟨rfl, hb2⟩
    go_wp2_with fail
    go_ret2
    exact ⟨rfl, bstep hb1 hb2⟩
  · have h1 : vld a.data.toList = false := by simpa using h1
    have H1 := Lib.hid h1; clear h1 h
    go_enter Tryz.func99, Tryz.ntmps99
    go_wp2_with fail
    refine (Valid_is false a _ ha H1.out).mono ?_
    rintro e w1 ⟨rfl, hb1⟩
    go_wp2_with fail
    go_ret2
    exact ⟨rfl, hb1⟩
set_option maxHeartbeats 400000 in
set_option maxRecDepth 100000 in
theorem Cons_size (a b : ByteArray) (w : World) (h1 : vld a.data.toList = true) (h2 : vld b.data.toList = true) (hz : 2000000 < 1 + a.size + b.size) :
    Calls Tryz.prog 99 #[.string a, .string b] w fun e w' => e = .returned (.tuple #[.string (S []), .int .i64 3]) ∧ Below w.heap.size w w' := by
  have ha := vld_size h1
  have hb := vld_size h2
  have H1 := Lib.hid h1; have H2 := Lib.hid h2; clear h1 h2
  go_enter Tryz.func99, Tryz.ntmps99
  go_wp2_with fail
  refine (Valid_is true a _ (by omega) H1.out).mono ?_
  rintro e w1 ⟨rfl, hb1⟩
  go_wp2_with fail
  refine (Valid_is true b _ (by omega) H2.out).mono ?_
  rintro e w2 ⟨rfl, hb2⟩
  go_wp2_with fail
  go_ret2
  exact ⟨rfl, bstep hb1 hb2⟩
set_option maxHeartbeats 400000 in
set_option maxRecDepth 100000 in
theorem Cons_yes (a b : ByteArray) (w : World) (h1 : vld a.data.toList = true) (h2 : vld b.data.toList = true) (hz : 1 + a.size + b.size ≤ 2000000) :
    Calls Tryz.prog 99 #[.string a, .string b] w fun e w' => e = .returned (.tuple #[.string (S (49 :: (a.data.toList ++ b.data.toList))), .int .i64 0]) ∧ Below w.heap.size w w' := by
  have ha := vld_size h1
  have hb := vld_size h2
  have H1 := Lib.hid h1; have H2 := Lib.hid h2; clear h1 h2
  go_enter Tryz.func99, Tryz.ntmps99
  go_wp2_with fail
  refine (Valid_is true a _ (by omega) H1.out).mono ?_
  rintro e w1 ⟨rfl, hb1⟩
  go_wp2_with fail
  refine (Valid_is true b _ (by omega) H2.out).mono ?_
  rintro e w2 ⟨rfl, hb2⟩
  go_wp2_with fail
  go_ret2
  exact ⟨rfl, bstep hb1 hb2⟩

set_option maxHeartbeats 400000 in
set_option maxRecDepth 100000 in
theorem rHead_yes (s : ByteArray) (w : World) (hv : vld s.data.toList = true) :
    Calls Tryz.prog 44 #[.string s] w fun e w' => e = .returned (.string (S (hd s.data.toList))) ∧ w = w' := by
  by_cases h0 : s.data.toList = [48]
  · obtain rfl : s = S [48] := S_inj h0
    go_enter Tryz.func44, Tryz.ntmps44
    go_wp2_with fail
    go_ret
    exact ⟨rfl, rfl⟩
  · obtain ⟨e, g1, _, _, _, g5, g6⟩ := vld_pair hv h0
    have hl := (vld_iff.1 hv).1
    rw [len_eq] at hl g5
    have hE : endAt s.data.toList 1 = 1 + (e : Int) := by unfold endAt; rw [g1]; rfl
    have hh : hd s.data.toList = ((s.extract 1 (1 + e)).data.toList) := by
      unfold hd; rw [if_neg h0, sz_some g1, ex_list, List.drop_take]; simp
    have H1 := Lib.hid hh; clear hh
    have hne := ne_str h0
    have hc := fun W : World => End_any s 1 W (by omega) (by omega)
    rw [hE] at hc
    have HC := Lib.hid hc; clear hc h0 hv g1 hE
    have b1 : (1 : Int) + e ≤ s.size := by omega
    have b2 : (0 : Int) ≤ 1 + e := by omega
    have b3 : ((1 : Int) + e).toNat = 1 + e := by omega
    go_enter Tryz.func44, Tryz.ntmps44
    go_wp2_with (go_at_call 40; refine (HC.out _).mono ?_; rintro x w1 ⟨rfl, rfl⟩)
    go_ret
    exact ⟨ret_str (S_inj H1.out.symm), rfl⟩
set_option maxHeartbeats 400000 in
set_option maxRecDepth 100000 in
theorem rTail_yes (s : ByteArray) (w : World) (hv : vld s.data.toList = true) :
    Calls Tryz.prog 42 #[.string s] w fun e w' => e = .returned (.string (S (tl s.data.toList))) ∧ w = w' := by
  by_cases h0 : s.data.toList = [48]
  · obtain rfl : s = S [48] := S_inj h0
    go_enter Tryz.func42, Tryz.ntmps42
    go_wp2_with fail
    go_ret
    exact ⟨rfl, rfl⟩
  · obtain ⟨e, g1, _, _, _, g5, g6⟩ := vld_pair hv h0
    have hl := (vld_iff.1 hv).1
    rw [len_eq] at hl g5
    have hE : endAt s.data.toList 1 = 1 + (e : Int) := by unfold endAt; rw [g1]; rfl
    have ht : tl s.data.toList = ((s.extract (1 + e) s.size).data.toList) := by
      unfold tl; rw [if_neg h0, sz_some g1, ex_end, List.drop_drop]; simp
    have H1 := Lib.hid ht; clear ht
    have hne := ne_str h0
    have hc := fun W : World => End_any s 1 W (by omega) (by omega)
    rw [hE] at hc
    have HC := Lib.hid hc; clear hc h0 hv g1 hE
    have b1 : (1 : Int) + e ≤ s.size := by omega
    have b2 : (0 : Int) ≤ 1 + e := by omega
    have b3 : ((1 : Int) + e).toNat = 1 + e := by omega
    go_enter Tryz.func42, Tryz.ntmps42
    go_wp2_with (go_at_call 40; refine (HC.out _).mono ?_; rintro x w1 ⟨rfl, rfl⟩)
    go_ret
    exact ⟨ret_str (S_inj H1.out.symm), rfl⟩

theorem take_snoc (s : ByteArray) (k : Nat) (h : k < s.size) : s.data.toList.take (k + 1) = s.data.toList.take k ++ [s[k]] := by
  rw [List.take_succ_eq_append_getElem (by simpa using h)]; rfl
theorem count_snoc (s : ByteArray) (k : Nat) (h : k < s.size) : ones (s.data.toList.take (k + 1)) = ones (s.data.toList.take k) + if s[k] = 49 then 1 else 0 := by
  unfold ones; rw [take_snoc s k h, List.count_append]; simp [List.count_cons, List.count_nil]
theorem count_le (l : List UInt8) (k : Nat) : ones (l.take k) ≤ k := Nat.le_trans List.count_le_length (by rw [List.length_take]; exact Nat.min_le_left _ _)
theorem alt_step (l : List UInt8) (k : Nat) (h : k + 1 < l.length) : alt (l.drop k) = ((l[k]'(by omega)) == 49 && l[k + 1] == 48 && alt (l.drop (k + 2))) := by
  rw [List.drop_eq_getElem_cons (by omega : k < l.length), List.drop_eq_getElem_cons h]; rfl
theorem alt_rest (l : List UInt8) (k : Nat) (h : l.length ≤ k + 1) : alt (l.drop k) = true := alt_short (by rw [List.length_drop]; omega)
theorem val_bad {l : List UInt8} (h : alt l = false) : val l = -1 := by unfold val; rw [h]; rfl
theorem val_good {l : List UInt8} (h : alt l = true) : val l = (l.length : Int) / 2 := by unfold val; rw [h, if_pos rfl]; omega
set_option maxHeartbeats 400000 in
set_option maxRecDepth 100000 in
theorem rValue_any (s : ByteArray) (w : World) (hs : s.size ≤ 281474976710656) :
    Calls Tryz.prog 43 #[.string s] w fun e w' => e = .returned (.int .i64 (val s.data.toList)) ∧ w = w' := by
  go_enter Tryz.func43, Tryz.ntmps43
  go_wp2
  go_loop [3] (fun i => ∃ k : Nat, k ≤ s.size + 1 ∧ i = .int .i64 k ∧ Hid (alt s.data.toList = alt (s.data.toList.drop k))) (fun i => s.size + 2 - (intOf i).toNat)
  case atStart => exact ⟨0, Nat.zero_le _, rfl, Lib.hid rfl⟩
  case round =>
    obtain ⟨k, hk, rfl, hA⟩ := hrel
    by_cases hlt : k + 1 < s.size
    · have H := Lib.hid (alt_step s.data.toList k (by rw [len_eq]; exact hlt))
      by_cases c : s[k] = 49
      · have C := Lib.hid c
        by_cases d : s[k + 1] = 48
        · have D := Lib.hid d
          go_wp2
          go_round
          case rel => exact ⟨k + 2, by omega, by go_num, Lib.hid (by rw [hA.out, H.out]; show (s[k] == 49 && s[k + 1] == 48 && _) = _; rw [C.out, D.out]; rfl)⟩
          case measure => simp [intOf]; omega
        · have D : Hid (val s.data.toList = -1) := Lib.hid (val_bad (by rw [hA.out, H.out]; show (s[k] == 49 && s[k + 1] == 48 && _) = _; rw [beq_eq_false_iff_ne.2 d]; simp))
          have n1 : ((s[k + 1].toNat : Int) != 48) = true := by rw [bne_iff_ne]; intro e; exact d (UInt8.toNat_inj.1 (by simpa using Int.ofNat.inj e))
          clear d
          go_wp2
          go_ret
          exact ⟨ret_int D.out.symm, rfl⟩
      · have D : Hid (val s.data.toList = -1) := Lib.hid (val_bad (by rw [hA.out, H.out]; show (s[k] == 49 && s[k + 1] == 48 && _) = _; rw [beq_eq_false_iff_ne.2 c]; simp))
        have n1 : ((s[k].toNat : Int) != 49) = true := by rw [bne_iff_ne]; intro e; exact c (UInt8.toNat_inj.1 (by simpa using Int.ofNat.inj e))
        clear c
        go_wp2
        go_ret
        exact ⟨ret_int D.out.symm, rfl⟩
    · have D : Hid (val s.data.toList = (s.size : Int) / 2) := Lib.hid (by rw [val_good (by rw [hA.out]; exact alt_rest _ _ (by rw [len_eq]; omega)), len_eq])
      go_wp2
      go_ret
      exact ⟨ret_int D.out.symm, rfl⟩
end Go.Proofs.YtlfoigkpfooopaaGreatDoor
