/- The walk of TreeItems. By an AI agent. -/
import Derived.Test.YtkodkimdhalpcaaItemsB
namespace Go.Proofs.Ytkodkimdhalpcaa
open Go.RowKit Pl

/-- a value that reads as a list of strings -/
def ArgS (w : World) (v : Value) (ls : List (List UInt8)) : Prop :=
  (ls = [] ∧ ∃ a cap, v = .slice a 0 cap) ∨ (0 < ls.length ∧ ∃ b off cap, v = .slice (some ⟨b, off, none⟩) ls.length cap ∧ StrAt w b off ls)
theorem ArgS.below {w w1 : World} {v : Value} {ls : List (List UInt8)} (h : ArgS w v ls) (hb : Below w.heap.size w w1) : ArgS w1 v ls := by
  rcases h with h | ⟨h0, b, off, cap, h1, h2⟩
  · exact Or.inl h
  · exact Or.inr ⟨h0, b, off, cap, h1, h2.below hb⟩
theorem arg_own {w : World} {base n : Nat} {e : TypeId} {v : Value} {ls : List (List UInt8)} (h : w.ownsRow base e 1 v n (strsV ls)) : ArgS w v ls := by
  have hn : n = ls.length := by have := h.1; rw [strsV_len, Nat.mul_one] at this; exact this.symm
  rcases Nat.eq_zero_or_pos n with h0 | h0
  · have hl : ls = [] := List.length_eq_zero_iff.1 (by omega)
    rw [h0] at h
    exact Or.inl ⟨hl, own_empty h⟩
  · obtain ⟨g, cap, h1, _, _, h3⟩ := own_strs h h0
    exact Or.inr ⟨by omega, g, 0, cap, h1, h3⟩
/-- what List returns: the tree, or one of two errors -/
def LRes (ls : List (List UInt8)) (e : Ending) : Prop :=
  (AllV ls ∧ (enc ls).length ≤ 2000000 ∧ e = .returned (.tuple #[.string (S (enc ls)), .int .i64 0])) ∨ e = .returned (.tuple #[.string (S []), .int .i64 1]) ∨ e = .returned (.tuple #[.string (S []), .int .i64 3])
theorem List_arg (w : World) (v : Value) (ls : List (List UInt8)) (h : ArgS w v ls) (hm : ls.length ≤ 281474976710656) (hz : ∀ l ∈ ls, l.length ≤ 281474976710656) :
    Calls Try.prog 30 #[v] w fun e w' => LRes ls e ∧ Below w.heap.size w w' := by
  rcases h with ⟨rfl, a, cap, rfl⟩ | ⟨_, b, off, cap, rfl, hc⟩
  · exact (List_none w a cap).mono fun e w' ⟨h1, h2⟩ => ⟨Or.inl ⟨by intro l hl; simp at hl, by decide, h1⟩, h2⟩
  · by_cases hn : AllV ls
    · rcases Nat.lt_or_ge 2000000 (enc ls).length with h | h
      · exact (List_size w b off cap ls hc hm hn h).mono fun e w' ⟨h1, h2⟩ => ⟨Or.inr (Or.inr h1), h2⟩
      · exact (List_yes w b off cap ls hc hm hn h).mono fun e w' ⟨h1, h2⟩ => ⟨Or.inl ⟨hn, h, h1⟩, h2⟩
    · exact (List_form w b off cap ls hc hm hz hn).mono fun e w' ⟨h1, h2⟩ => ⟨Or.inr (Or.inl h1), h2⟩
theorem List_ok (w : World) (v : Value) (ls : List (List UInt8)) (h : ArgS w v ls) (hn : AllV ls) (hz : (enc ls).length ≤ 2000000) (hm : ls.length ≤ 281474976710656) :
    Calls Try.prog 30 #[v] w fun e w' => e = .returned (.tuple #[.string (S (enc ls)), .int .i64 0]) ∧ Below w.heap.size w w' := by
  rcases h with ⟨rfl, a, cap, rfl⟩ | ⟨_, b, off, cap, rfl, hc⟩
  · exact List_none w a cap
  · exact List_yes w b off cap ls hc hm hn hz
theorem Same_arg (w : World) (v v2 : Value) (ls : List (List UInt8)) (h : ArgS w v ls) (h2 : ArgS w v2 ls) (hm : ls.length ≤ 281474976710656) :
    Calls Try.prog 25 #[v, v2] w fun e w' => e = .returned (.bool true) ∧ Below w.heap.size w w' := by
  rcases h with ⟨rfl, a, cap, rfl⟩ | ⟨hp, b, off, cap, rfl, hc⟩
  · rcases h2 with ⟨_, a2, cap2, rfl⟩ | ⟨hp, _⟩
    · exact (Same_none a a2 cap cap2 w).mono fun _ _ ⟨h1, h2⟩ => ⟨h1, h2 ▸ Below.refl _ _⟩
    · simp at hp
  · rcases h2 with ⟨rfl, _⟩ | ⟨_, b2, off2, cap2, rfl, hc2⟩
    · simp at hp
    · exact Same_yes w b off cap b2 off2 cap2 ls hc hc2 hm
theorem Items_arg (s : ByteArray) (w : World) (hv : vld s.data.toList = true) :
    Calls Try.prog 16 #[.string s] w fun e w' => ∃ v, e = .returned (.tuple #[v, .int .i64 0]) ∧ ArgS w' v (itemsOf s.data.toList) ∧ Below w.heap.size w w' :=
  (Items_yes s w hv).mono fun _ _ ⟨v, _, h1, h2, h3⟩ => ⟨v, h1, arg_own h2, h3⟩
theorem items_few {l : List UInt8} (h : vld l = true) : (itemsOf l).length ≤ 2000000 := by
  have h1 := items_len (l.length / 2) (l := l)
  have h2 := (vld_iff.1 h).1
  unfold itemsOf; omega
theorem news_alloc {w : World} {ad : Addr} {ls : List (List UInt8)} (h : ∀ j u, (strsV ls)[j]? = some u → w.cell? (ad.add j) = some u) (o : Obj) : ∀ j u, (strsV ls)[j]? = some u → (w.alloc o).cell? (ad.add j) = some u := fun j u hu => by
  have h1 := h j u hu
  rw [World.cell?_of_block (w := w) (Below.heap_alloc w o _ (cell_lt h1))]; exact h1
theorem neq_self {l : List UInt8} {s : ByteArray} (h : s.data.toList = l) : (l == s.toList) = true := by rw [ByteArray.toList_eq, h]; simp

set_option maxHeartbeats 3200000 in
set_option maxRecDepth 100000 in
theorem items_nil_yes (w : World) (s : ByteArray) (hs : s.size ≤ 281474976710656) (hv : vld s.data.toList = true) :
    Calls Try.prog 9 #[.string s, .slice none 0 0] w fun e w' => e = .returned (.bool true) ∧ Below w.heap.size w w' := by
  obtain ⟨i0, hi, hz0, hz1, hz2⟩ := info_parts Try.infoStr
  have HO := fun (W : World) => Lib.hid (World.ownsRow_lit (e := 9) (size := 1) (base := W.heap.size) W #[] 0 (Nat.le_refl _) (by unfold maxLen; omega) rfl)
  have HHO := Lib.hid HO; clear HO
  have hI := fun W => Items_arg s W hv
  have hL1 := fun (W : World) (v : Value) h => List_ok W v (itemsOf s.data.toList) h (items_valid hv) (by rw [items_enc hv]; exact (vld_iff.1 hv).1) (Nat.le_trans (items_few hv) (by omega))
  rw [items_enc hv] at hL1
  have heq := neq_self (s := s) rfl
  have HI := Lib.hid hI; have HL1 := Lib.hid hL1; clear hI hL1
  have HV := Lib.hid hv; clear hv
  have hK := fun (W : World) (v : Value) h => List_arg W v [] h (by simp) (by simp)
  have hA := fun (W : World) (v : Value) (n : Nat) (h : W.ownsRow n 9 1 v 0 []) => arg_own (ls := []) h
  have hX := fun (W : World) => (show ArgS W (.slice none 0 0) [] from Or.inl ⟨rfl, _, _, rfl⟩)
  have HK := Lib.hid hK; have HA := Lib.hid hA; have HX := Lib.hid hX; clear hK hA hX
  generalize hls : ([] : List (List UInt8)) = ls at *
  have hlm : ls.length * 16 ≤ 140737488355328 := by rw [← hls]; simp
  have HLS := Lib.hid hls; clear hls
  go_enter Try.func9, Try.ntmps9
  go_wp2_with fail
  refine (rValid_is true s _ hs HV.out).mono ?_
  rintro e w1 ⟨rfl, rfl⟩
  go_wp2_with fail
  refine (HI.out _).mono ?_
  rintro e w2 ⟨v2, rfl, ha2, hb2⟩
  have HA2 := Lib.hid ha2; clear ha2
  go_wp2_with fail
  refine (HL1.out _ _ HA2.out).mono ?_
  rintro e wp ⟨rfl, hb3⟩
  have hp := bstep hb2 hb3
  clear hb2 hb3
  go_wp2_with (at_builtin; refine wpList_append_own_none rfl _ _ 27 rfl wp.heap.size 9 i0 1 Try.underlying27 hi _ _ _ rfl (HHO.out wp).out rfl ?_)
  have ha3 : ArgS (wp.alloc (.cells #[] 9)) (.slice (some ⟨wp.heap.size, 0, none⟩) 0 0) ls := HA.out _ _ _ (HHO.out wp).out
  have h4 : Below wp.heap.size wp (wp.alloc (.cells #[] 9)) := (Below.refl _ wp).alloc (Nat.le_refl _) _
  have hXP := Lib.hid (HX.out wp)
  have HA3 := Lib.hid ha3; clear ha3
  refine (HK.out _ _ HA3.out).mono ?_
  rintro e w5 ⟨hr, h5⟩
  have h6 := bstep h4 h5
  have h6w := bstep hp h6
  clear h4 h5
  rcases hr with ⟨hn, hlen, rfl⟩ | rfl | rfl
  · have hv5 := vld_enc hn hlen
    have hI2 := fun W => Items_arg (S (enc ls)) W hv5
    simp only [items_of_enc hn hlen] at hI2
    have HI2 := Lib.hid hI2; clear hI2 hv5 hn hlen
    go_wp2_with fail
    refine (HI2.out _).mono ?_
    rintro e w7 ⟨v7, rfl, ha7, h7⟩
    have HA7 := Lib.hid ha7; clear ha7
    go_wp2_with fail
    refine (Same_arg _ _ _ ls HA7.out (hXP.out.below (bstep h6 h7)) (by omega)).mono ?_
    rintro e w8 ⟨rfl, h8⟩
    go_wp2_with fail
    refine (awake_any _).mono ?_
    rintro e w9 ⟨rfl, h9⟩
    go_wp2_with fail
    go_ret
    exact ⟨rfl, bstep (bstep (bstep h6w h7) h8) h9⟩
  · go_wp2_with fail
    refine (awake_any _).mono ?_
    rintro e w9 ⟨rfl, h9⟩
    go_wp2_with fail
    go_ret
    exact ⟨rfl, bstep h6w h9⟩
  · go_wp2_with fail
    refine (awake_any _).mono ?_
    rintro e w9 ⟨rfl, h9⟩
    go_wp2_with fail
    go_ret
    exact ⟨rfl, bstep h6w h9⟩

set_option maxHeartbeats 3200000 in
set_option maxRecDepth 100000 in
theorem items_some_yes (w : World) (s : ByteArray) (ad : Addr) (cap : Nat) (ls : List (List UInt8)) (hs : s.size ≤ 281474976710656) (hv : vld s.data.toList = true)
    (hm : ls.length * 16 ≤ 140737488355328) (hz : ∀ l ∈ ls, l.length ≤ 281474976710656) (hnews : ∀ j u, (strsV ls)[j]? = some u → w.cell? (ad.add j) = some u) (harg : ArgS w (.slice (some ad) ls.length cap) ls) :
    Calls Try.prog 9 #[.string s, .slice (some ad) ls.length cap] w fun e w' => e = .returned (.bool true) ∧ Below w.heap.size w w' := by
  obtain ⟨i0, hi, hz0, hz1, hz2⟩ := info_parts Try.infoStr
  have HO := fun (W : World) => Lib.hid (World.ownsRow_lit (e := 9) (size := 1) (base := W.heap.size) W #[] 0 (Nat.le_refl _) (by unfold maxLen; omega) rfl)
  have HHO := Lib.hid HO; clear HO
  have hI := fun W => Items_arg s W hv
  have hL1 := fun (W : World) (v : Value) h => List_ok W v (itemsOf s.data.toList) h (items_valid hv) (by rw [items_enc hv]; exact (vld_iff.1 hv).1) (Nat.le_trans (items_few hv) (by omega))
  rw [items_enc hv] at hL1
  have heq := neq_self (s := s) rfl
  have HI := Lib.hid hI; have HL1 := Lib.hid hL1; clear hI hL1
  have HV := Lib.hid hv; clear hv
  have hK := fun (W : World) (v : Value) h => List_arg W v ls h (by omega) hz
  have hA := fun (W : World) (v : Value) (n : Nat) (h : W.ownsRow n 9 1 v (0 + ls.length) ([] ++ strsV ls)) => arg_own (ls := ls) h
  have HK := Lib.hid hK; have HA := Lib.hid hA; clear hK hA hz
  have H1 := Lib.hid (strs_one ls)
  have HL := Lib.hid (show (strsV ls).length = ls.length * 1 by rw [strsV_len, Nat.mul_one])
  have HNW := Lib.hid hnews; have HX := Lib.hid harg; clear hnews harg
  go_enter Try.func9, Try.ntmps9
  go_wp2_with fail
  refine (rValid_is true s _ hs HV.out).mono ?_
  rintro e w1 ⟨rfl, rfl⟩
  go_wp2_with fail
  refine (HI.out _).mono ?_
  rintro e w2 ⟨v2, rfl, ha2, hb2⟩
  have HA2 := Lib.hid ha2; clear ha2
  go_wp2_with fail
  refine (HL1.out _ _ HA2.out).mono ?_
  rintro e wp ⟨rfl, hb3⟩
  have hp := bstep hb2 hb3
  clear hb2 hb3
  have hXP := Lib.hid (HX.out.below hp)
  have hnw : ∀ j u, (strsV ls)[j]? = some u → wp.cell? (ad.add j) = some u := fun j u h => cell_keep hp (HNW.out j u h)
  have HN2 := Lib.hid (news_alloc hnw (.cells #[] 9)); clear hnw
  go_wp2_with (at_builtin; refine wpList_append_own _ rfl _ _ 27 rfl wp.heap.size 9 i0 (.string ⟨#[]⟩) 1 16 Try.underlying27 hi hz0 hz1 hz2 rfl (by decide) _ _ _ rfl (HHO.out wp).out ad ls.length cap (strsV ls) rfl HL.out HN2.out H1.out (by unfold maxLen; omega) (by omega) (by simp) ?_; intro v3 w3 hown hgrow _)
  have h4 : Below wp.heap.size wp w3 := ((Below.refl _ wp).alloc (Nat.le_refl _) _).grown hgrow (by simp) (fun k h => ((HHO.out wp).out.lt k h).1)
  have ha3 := HA.out _ _ _ (by exact hown)
  clear hown hgrow
  have HA3 := Lib.hid ha3; clear ha3
  refine (HK.out _ _ HA3.out).mono ?_
  rintro e w5 ⟨hr, h5⟩
  have h6 := bstep h4 h5
  have h6w := bstep hp h6
  clear h4 h5
  rcases hr with ⟨hn, hlen, rfl⟩ | rfl | rfl
  · have hv5 := vld_enc hn hlen
    have hI2 := fun W => Items_arg (S (enc ls)) W hv5
    simp only [items_of_enc hn hlen] at hI2
    have HI2 := Lib.hid hI2; clear hI2 hv5 hn hlen
    go_wp2_with fail
    refine (HI2.out _).mono ?_
    rintro e w7 ⟨v7, rfl, ha7, h7⟩
    have HA7 := Lib.hid ha7; clear ha7
    go_wp2_with fail
    refine (Same_arg _ _ _ ls HA7.out (hXP.out.below (bstep h6 h7)) (by omega)).mono ?_
    rintro e w8 ⟨rfl, h8⟩
    go_wp2_with fail
    refine (awake_any _).mono ?_
    rintro e w9 ⟨rfl, h9⟩
    go_wp2_with fail
    go_ret
    exact ⟨rfl, bstep (bstep (bstep h6w h7) h8) h9⟩
  · go_wp2_with fail
    refine (awake_any _).mono ?_
    rintro e w9 ⟨rfl, h9⟩
    go_wp2_with fail
    go_ret
    exact ⟨rfl, bstep h6w h9⟩
  · go_wp2_with fail
    refine (awake_any _).mono ?_
    rintro e w9 ⟨rfl, h9⟩
    go_wp2_with fail
    go_ret
    exact ⟨rfl, bstep h6w h9⟩

set_option maxHeartbeats 3200000 in
set_option maxRecDepth 100000 in
theorem items_nil_no (w : World) (s : ByteArray) (hs : s.size ≤ 281474976710656) (hv : vld s.data.toList = false) :
    Calls Try.prog 9 #[.string s, .slice none 0 0] w fun e w' => e = .returned (.bool true) ∧ Below w.heap.size w w' := by
  obtain ⟨i0, hi, hz0, hz1, hz2⟩ := info_parts Try.infoStr
  have HO := fun (W : World) => Lib.hid (World.ownsRow_lit (e := 9) (size := 1) (base := W.heap.size) W #[] 0 (Nat.le_refl _) (by unfold maxLen; omega) rfl)
  have HHO := Lib.hid HO; clear HO
  have HV := Lib.hid hv; clear hv
  have hK := fun (W : World) (v : Value) h => List_arg W v [] h (by simp) (by simp)
  have hA := fun (W : World) (v : Value) (n : Nat) (h : W.ownsRow n 9 1 v 0 []) => arg_own (ls := []) h
  have hX := fun (W : World) => (show ArgS W (.slice none 0 0) [] from Or.inl ⟨rfl, _, _, rfl⟩)
  have HK := Lib.hid hK; have HA := Lib.hid hA; have HX := Lib.hid hX; clear hK hA hX
  generalize hls : ([] : List (List UInt8)) = ls at *
  have hlm : ls.length * 16 ≤ 140737488355328 := by rw [← hls]; simp
  have HLS := Lib.hid hls; clear hls
  go_enter Try.func9, Try.ntmps9
  go_wp2_with fail
  refine (rValid_is false s _ hs HV.out).mono ?_
  rintro e w1 ⟨rfl, rfl⟩
  obtain ⟨wp, rfl⟩ : ∃ wp : World, wp = w := ⟨_, rfl⟩
  have hp := Below.refl wp.heap.size wp
  go_wp2_with (at_builtin; refine wpList_append_own_none rfl _ _ 27 rfl wp.heap.size 9 i0 1 Try.underlying27 hi _ _ _ rfl (HHO.out wp).out rfl ?_)
  have ha3 : ArgS (wp.alloc (.cells #[] 9)) (.slice (some ⟨wp.heap.size, 0, none⟩) 0 0) ls := HA.out _ _ _ (HHO.out wp).out
  have h4 : Below wp.heap.size wp (wp.alloc (.cells #[] 9)) := (Below.refl _ wp).alloc (Nat.le_refl _) _
  have hXP := Lib.hid (HX.out wp)
  have HA3 := Lib.hid ha3; clear ha3
  refine (HK.out _ _ HA3.out).mono ?_
  rintro e w5 ⟨hr, h5⟩
  have h6 := bstep h4 h5
  have h6w := bstep hp h6
  clear h4 h5
  rcases hr with ⟨hn, hlen, rfl⟩ | rfl | rfl
  · have hv5 := vld_enc hn hlen
    have hI2 := fun W => Items_arg (S (enc ls)) W hv5
    simp only [items_of_enc hn hlen] at hI2
    have HI2 := Lib.hid hI2; clear hI2 hv5 hn hlen
    go_wp2_with fail
    refine (HI2.out _).mono ?_
    rintro e w7 ⟨v7, rfl, ha7, h7⟩
    have HA7 := Lib.hid ha7; clear ha7
    go_wp2_with fail
    refine (Same_arg _ _ _ ls HA7.out (hXP.out.below (bstep h6 h7)) (by omega)).mono ?_
    rintro e w8 ⟨rfl, h8⟩
    go_wp2_with fail
    refine (awake_any _).mono ?_
    rintro e w9 ⟨rfl, h9⟩
    go_wp2_with fail
    go_ret
    exact ⟨rfl, bstep (bstep (bstep h6w h7) h8) h9⟩
  · go_wp2_with fail
    refine (awake_any _).mono ?_
    rintro e w9 ⟨rfl, h9⟩
    go_wp2_with fail
    go_ret
    exact ⟨rfl, bstep h6w h9⟩
  · go_wp2_with fail
    refine (awake_any _).mono ?_
    rintro e w9 ⟨rfl, h9⟩
    go_wp2_with fail
    go_ret
    exact ⟨rfl, bstep h6w h9⟩

set_option maxHeartbeats 3200000 in
set_option maxRecDepth 100000 in
theorem items_some_no (w : World) (s : ByteArray) (ad : Addr) (cap : Nat) (ls : List (List UInt8)) (hs : s.size ≤ 281474976710656) (hv : vld s.data.toList = false)
    (hm : ls.length * 16 ≤ 140737488355328) (hz : ∀ l ∈ ls, l.length ≤ 281474976710656) (hnews : ∀ j u, (strsV ls)[j]? = some u → w.cell? (ad.add j) = some u) (harg : ArgS w (.slice (some ad) ls.length cap) ls) :
    Calls Try.prog 9 #[.string s, .slice (some ad) ls.length cap] w fun e w' => e = .returned (.bool true) ∧ Below w.heap.size w w' := by
  obtain ⟨i0, hi, hz0, hz1, hz2⟩ := info_parts Try.infoStr
  have HO := fun (W : World) => Lib.hid (World.ownsRow_lit (e := 9) (size := 1) (base := W.heap.size) W #[] 0 (Nat.le_refl _) (by unfold maxLen; omega) rfl)
  have HHO := Lib.hid HO; clear HO
  have HV := Lib.hid hv; clear hv
  have hK := fun (W : World) (v : Value) h => List_arg W v ls h (by omega) hz
  have hA := fun (W : World) (v : Value) (n : Nat) (h : W.ownsRow n 9 1 v (0 + ls.length) ([] ++ strsV ls)) => arg_own (ls := ls) h
  have HK := Lib.hid hK; have HA := Lib.hid hA; clear hK hA hz
  have H1 := Lib.hid (strs_one ls)
  have HL := Lib.hid (show (strsV ls).length = ls.length * 1 by rw [strsV_len, Nat.mul_one])
  have HNW := Lib.hid hnews; have HX := Lib.hid harg; clear hnews harg
  go_enter Try.func9, Try.ntmps9
  go_wp2_with fail
  refine (rValid_is false s _ hs HV.out).mono ?_
  rintro e w1 ⟨rfl, rfl⟩
  obtain ⟨wp, rfl⟩ : ∃ wp : World, wp = w := ⟨_, rfl⟩
  have hp := Below.refl wp.heap.size wp
  have hXP := Lib.hid (HX.out.below hp)
  have hnw : ∀ j u, (strsV ls)[j]? = some u → wp.cell? (ad.add j) = some u := fun j u h => cell_keep hp (HNW.out j u h)
  have HN2 := Lib.hid (news_alloc hnw (.cells #[] 9)); clear hnw
  go_wp2_with (at_builtin; refine wpList_append_own _ rfl _ _ 27 rfl wp.heap.size 9 i0 (.string ⟨#[]⟩) 1 16 Try.underlying27 hi hz0 hz1 hz2 rfl (by decide) _ _ _ rfl (HHO.out wp).out ad ls.length cap (strsV ls) rfl HL.out HN2.out H1.out (by unfold maxLen; omega) (by omega) (by simp) ?_; intro v3 w3 hown hgrow _)
  have h4 : Below wp.heap.size wp w3 := ((Below.refl _ wp).alloc (Nat.le_refl _) _).grown hgrow (by simp) (fun k h => ((HHO.out wp).out.lt k h).1)
  have ha3 := HA.out _ _ _ (by exact hown)
  clear hown hgrow
  have HA3 := Lib.hid ha3; clear ha3
  refine (HK.out _ _ HA3.out).mono ?_
  rintro e w5 ⟨hr, h5⟩
  have h6 := bstep h4 h5
  have h6w := bstep hp h6
  clear h4 h5
  rcases hr with ⟨hn, hlen, rfl⟩ | rfl | rfl
  · have hv5 := vld_enc hn hlen
    have hI2 := fun W => Items_arg (S (enc ls)) W hv5
    simp only [items_of_enc hn hlen] at hI2
    have HI2 := Lib.hid hI2; clear hI2 hv5 hn hlen
    go_wp2_with fail
    refine (HI2.out _).mono ?_
    rintro e w7 ⟨v7, rfl, ha7, h7⟩
    have HA7 := Lib.hid ha7; clear ha7
    go_wp2_with fail
    refine (Same_arg _ _ _ ls HA7.out (hXP.out.below (bstep h6 h7)) (by omega)).mono ?_
    rintro e w8 ⟨rfl, h8⟩
    go_wp2_with fail
    refine (awake_any _).mono ?_
    rintro e w9 ⟨rfl, h9⟩
    go_wp2_with fail
    go_ret
    exact ⟨rfl, bstep (bstep (bstep h6w h7) h8) h9⟩
  · go_wp2_with fail
    refine (awake_any _).mono ?_
    rintro e w9 ⟨rfl, h9⟩
    go_wp2_with fail
    go_ret
    exact ⟨rfl, bstep h6w h9⟩
  · go_wp2_with fail
    refine (awake_any _).mono ?_
    rintro e w9 ⟨rfl, h9⟩
    go_wp2_with fail
    go_ret
    exact ⟨rfl, bstep h6w h9⟩

theorem TreeItems_nil (w : World) (s : ByteArray) (hs : s.size ≤ 281474976710656) :
    Calls Try.prog 9 #[.string s, .slice none 0 0] w fun e w' => e = .returned (.bool true) ∧ Below w.heap.size w w' := by
  cases hv : vld s.data.toList with
  | true => exact items_nil_yes w s hs hv
  | false => exact items_nil_no w s hs hv
theorem TreeItems_some (w : World) (s : ByteArray) (ad : Addr) (cap : Nat) (ls : List (List UInt8)) (hs : s.size ≤ 281474976710656)
    (hm : ls.length * 16 ≤ 140737488355328) (hz : ∀ l ∈ ls, l.length ≤ 281474976710656) (hnews : ∀ j u, (strsV ls)[j]? = some u → w.cell? (ad.add j) = some u) (harg : ArgS w (.slice (some ad) ls.length cap) ls) :
    Calls Try.prog 9 #[.string s, .slice (some ad) ls.length cap] w fun e w' => e = .returned (.bool true) ∧ Below w.heap.size w w' := by
  cases hv : vld s.data.toList with
  | true => exact items_some_yes w s ad cap ls hs hv hm hz hnews harg
  | false => exact items_some_no w s ad cap ls hs hv hm hz hnews harg
end Go.Proofs.Ytkodkimdhalpcaa
