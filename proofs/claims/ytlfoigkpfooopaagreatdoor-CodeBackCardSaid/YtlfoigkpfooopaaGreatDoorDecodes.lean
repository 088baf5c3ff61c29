/- The walk of CodeDecodes. By an AI agent. -/
import Derived.Test.YtlfoigkpfooopaaGreatDoorGens
namespace Go.Proofs.YtlfoigkpfooopaaGreatDoor
open Go.RowKit Pl

theorem Decode_hit (s : ByteArray) (ps : List Ins) (w : World) (hs : s.size ≤ 281474976710656) (hE : Env w) (hv : vld s.data.toList = true) (hp : PValid ps) (he : enc (codes ps) = s.data.toList) :
    Calls Tryz.prog 20 #[.string s] w fun e w' => ∃ v, e = .returned (.tuple #[v, .int .i64 0]) ∧ ArgP w' v ps ∧ Below w.heap.size w w' := by
  have hl := (vld_iff.1 hv).1
  refine (Decode_gen s w hs hE).mono fun e w' ⟨h1, h2⟩ => ?_
  rcases h1 with ⟨qs, v, hq, hqe, _, e1, h3⟩ | ⟨n, h1 | ⟨_, _, h1⟩, _⟩
  · obtain rfl : ps = qs := code_inj hp hq (by rw [he]; exact hl) (by rw [he, hqe])
    exact ⟨v, e1, h3, h2⟩
  · rw [h1.2] at hv; cases hv
  · exact absurd he (h1 ps hp)
theorem Decode_miss (s : ByteArray) (w : World) (hs : s.size ≤ 281474976710656) (hE : Env w) (hv : vld s.data.toList = true) (h : ∀ ps, PValid ps → enc (codes ps) ≠ s.data.toList) :
    Calls Tryz.prog 20 #[.string s] w fun e w' => e = .returned (.tuple #[.slice none 0 0, .int .i64 4]) ∧ Below w.heap.size w w' := by
  refine (Decode_gen s w hs hE).mono fun e w' ⟨h1, h2⟩ => ?_
  rcases h1 with ⟨qs, v, hq, hqe, _, e1, h3⟩ | ⟨n, h1 | ⟨rfl, _, h1⟩, e1⟩
  · exact absurd hqe (h qs hq)
  · rw [h1.2] at hv; cases hv
  · exact ⟨e1, h2⟩
theorem rDecode_hit (s : ByteArray) (ps : List Ins) (w : World) (hv : vld s.data.toList = true) (hp : PValid ps) (he : enc (codes ps) = s.data.toList) :
    Calls Tryz.prog 22 #[.string s] w fun e w' => ∃ v, e = .returned (.tuple #[v, .bool true]) ∧ ArgP w' v ps ∧ Below w.heap.size w w' := by
  have hl := (vld_iff.1 hv).1
  have hi : itemsOf s.data.toList = codes ps := by rw [← he]; exact code_items hp (by rw [he]; exact hl)
  have hd : decs (itemsOf s.data.toList) = ps := by rw [hi]; exact decs_codes hp
  have hn := hp.1
  by_cases h0 : ps = []
  · subst h0
    have e1 : s = S [48] := by rw [← S_back s, ← he]; rfl
    rw [e1]
    exact (Decode_zero w).mono fun e w' ⟨h1, h2⟩ => ⟨_, h1, .inl ⟨rfl, .inl rfl⟩, h2⟩
  · have hlen : (itemsOf s.data.toList).length = ps.length := by rw [hi, codes_len]
    have h1 : 0 < ps.length := List.length_pos_iff.2 h0
    refine (Decode_few s w true hv (by omega) (by omega) (by rw [hd]; simp [hp, he])).mono fun e w' ⟨v, h1, h2, h3⟩ => ⟨v, h1, ?_, h3⟩
    rw [hd] at h2
    exact (own_prog h2).2.1
theorem rDecode_miss (s : ByteArray) (w : World) (hv : vld s.data.toList = true) (h : ∀ ps, PValid ps → enc (codes ps) ≠ s.data.toList) :
    Calls Tryz.prog 22 #[.string s] w fun e w' => ∃ v, e = .returned (.tuple #[v, .bool false]) ∧ Below w.heap.size w w' := by
  by_cases hn : (itemsOf s.data.toList).length ≤ 4000
  · have h0 : 0 < (itemsOf s.data.toList).length := by
      rcases Nat.eq_zero_or_pos (itemsOf s.data.toList).length with e | e
      · have e1 := items_enc hv
        rw [List.eq_nil_of_length_eq_zero e] at e1
        exact absurd e1 (h [] pvalid_nil)
      · exact e
    exact (Decode_few s w false hv h0 hn (by simp only [Bool.false_eq_true, false_iff]; rintro ⟨h1, h2⟩; exact h _ h1 h2)).mono fun e w' ⟨v, h1, _, h3⟩ => ⟨v, h1, h3⟩
  · exact (Decode_many s w hv (by omega)).mono fun e w' ⟨h1, h2⟩ => ⟨_, h1, h2⟩

set_option maxHeartbeats 3200000 in
set_option maxRecDepth 100000 in
theorem decodes_no (s : ByteArray) (w : World) (hs : s.size ≤ 281474976710656) (hE : Env w) (hv : vld s.data.toList = false) :
    Calls Tryz.prog 4 #[.string s] w fun e w' => e = .returned (.bool true) ∧ Below w.heap.size w w' := by
  have HE := Lib.hid hE; have HS := Lib.hid hs; have HV := Lib.hid hv
  clear hE hs hv
  go_enter Tryz.func4, Tryz.ntmps4
  go_wp2_with fail
  refine (PDecode_no s _ HS.out HV.out).mono ?_
  rintro e w1 ⟨rfl, h1⟩
  have HB1 := Lib.hid h1
  clear h1
  go_wp2_with fail
  refine (rValid_eq false s _ HS.out HV.out).mono ?_
  rintro e w2 ⟨rfl, rfl⟩
  go_wp2_with fail
  refine (awake2_any _ (HE.out.below HB1.out)).mono ?_
  rintro e w3 ⟨rfl, h3⟩
  have HB3 := Lib.hid (HB1.out.trans (h3.mono HB1.out.size))
  clear h3
  go_wp2_with fail
  go_ret
  exact ⟨rfl, HB3.out⟩
set_option maxHeartbeats 3200000 in
set_option maxRecDepth 100000 in
theorem decodes_miss (s : ByteArray) (w : World) (hs : s.size ≤ 281474976710656) (hE : Env w) (hv : vld s.data.toList = true) (h : ∀ ps, PValid ps → enc (codes ps) ≠ s.data.toList) :
    Calls Tryz.prog 4 #[.string s] w fun e w' => e = .returned (.bool true) ∧ Below w.heap.size w w' := by
  have HE := Lib.hid hE; have HS := Lib.hid hs; have HV := Lib.hid hv; have HM := Lib.hid h
  clear hE hs hv h
  go_enter Tryz.func4, Tryz.ntmps4
  go_wp2_with fail
  refine (Decode_miss s _ HS.out HE.out HV.out HM.out).mono ?_
  rintro e w1 ⟨rfl, h1⟩
  have HB1 := Lib.hid h1
  clear h1
  go_wp2_with fail
  refine (rValid_eq true s _ HS.out HV.out).mono ?_
  rintro e w2 ⟨rfl, rfl⟩
  go_wp2_with fail
  refine (rDecode_miss s _ HV.out HM.out).mono ?_
  rintro e w2 ⟨v, rfl, h2⟩
  have HB2 := Lib.hid (HB1.out.trans (h2.mono HB1.out.size))
  clear h2
  go_wp2_with fail
  refine (awake2_any _ (HE.out.below HB2.out)).mono ?_
  rintro e w3 ⟨rfl, h3⟩
  have HB3 := Lib.hid (HB2.out.trans (h3.mono HB2.out.size))
  clear h3
  go_wp2_with fail
  go_ret
  exact ⟨rfl, HB3.out⟩
set_option maxHeartbeats 3200000 in
set_option maxRecDepth 100000 in
theorem decodes_hit (s : ByteArray) (ps : List Ins) (w : World) (hs : s.size ≤ 281474976710656) (hE : Env w) (hv : vld s.data.toList = true) (hp : PValid ps) (he : enc (codes ps) = s.data.toList) :
    Calls Tryz.prog 4 #[.string s] w fun e w' => e = .returned (.bool true) ∧ Below w.heap.size w w' := by
  have HE := Lib.hid hE; have HS := Lib.hid hs; have HV := Lib.hid hv; have HP := Lib.hid hp; have HC := Lib.hid he
  clear hE hs hv hp he
  go_enter Tryz.func4, Tryz.ntmps4
  go_wp2_with fail
  refine (Decode_hit s ps _ HS.out HE.out HV.out HP.out HC.out).mono ?_
  rintro e w1 ⟨v, rfl, ha, h1⟩
  have HB1 := Lib.hid h1
  have HA := Lib.hid ha
  clear h1 ha
  go_wp2_with fail
  refine (rValid_eq true s _ HS.out HV.out).mono ?_
  rintro e w2 ⟨rfl, rfl⟩
  go_wp2_with fail
  refine (rDecode_hit s ps _ HV.out HP.out HC.out).mono ?_
  rintro e w2 ⟨u, rfl, hu, h2⟩
  have HB2 := Lib.hid (HB1.out.trans (h2.mono HB1.out.size))
  have HA2 := Lib.hid (HA.out.below h2)
  have HU := Lib.hid hu
  clear h2 hu HA
  go_wp2_with fail
  refine (PSame_arg _ v u ps ps true HA2.out HU.out (by have := HP.out.1; omega) (by simp)).mono ?_
  rintro e w4 ⟨rfl, h4⟩
  have HB4 := Lib.hid (HB2.out.trans (h4.mono HB2.out.size))
  clear h4
  go_wp2_with fail
  refine (awake2_any _ (HE.out.below HB4.out)).mono ?_
  rintro e w3 ⟨rfl, h3⟩
  have HB3 := Lib.hid (HB4.out.trans (h3.mono HB4.out.size))
  clear h3
  go_wp2_with fail
  go_ret
  exact ⟨rfl, HB3.out⟩
theorem decodes_yes (s : ByteArray) (w : World) (hs : s.size ≤ 281474976710656) (hE : Env w) :
    Calls Tryz.prog 4 #[.string s] w fun e w' => e = .returned (.bool true) ∧ Below w.heap.size w w' := by
  cases hv : vld s.data.toList with
  | false => exact decodes_no s w hs hE hv
  | true =>
    by_cases h : ∃ ps, PValid ps ∧ enc (codes ps) = s.data.toList
    · obtain ⟨ps, hp, he⟩ := h
      exact decodes_hit s ps w hs hE hv hp he
    · exact decodes_miss s w hs hE hv (fun ps hp he => h ⟨ps, hp, he⟩)
end Go.Proofs.YtlfoigkpfooopaaGreatDoor
