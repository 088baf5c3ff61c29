/- Programs written and read back: mathematics, Same. By an AI agent. -/
import Derived.Test.YtmhoacnbmbhcjaaGreatDoorCdr
import Derived.Test.YtmhoacnbmbhcjaaGreatDoorSameP
namespace Go.Proofs.YtmhoacnbmbhcjaaGreatDoor
open Go.RowKit Pl

theorem dec_sound {s : List UInt8} {ps : List Ins} (hv : vld s = true) (h : rdP decM (itemsOf s) = some ps) : enc (codes ps) = s := by
  unfold rdP at h
  split at h
  · cases h
  · have := rdAll_sound (wr := codeOf) (fun t ht x hx => (decM_sound (items_valid hv t ht) hx).1) h
    unfold codes
    rw [this, items_enc hv]
theorem dec_complete {ps : List Ins} (hp : PValid ps) (hl : (enc (codes ps)).length ≤ 2000000) : rdP decM (itemsOf (enc (codes ps))) = some ps := by
  rw [code_items hp hl]
  unfold rdP
  have h1 := hp.1
  rw [if_neg (by rw [codes_len]; omega)]
  exact rdAll_complete (wr := codeOf) (fun x hx => by
    obtain ⟨i, h2, h3, h4⟩ := hp.at x hx
    exact decM_complete h2 h3 h4 (by omega))
theorem par_sound {s : List UInt8} {ps : List Ins} (h : rdP parM (Lib.splitN s [59, 32] 4001) = some ps) : txt ps = s := by
  unfold rdP at h
  split at h
  · cases h
  · have := rdAll_sound (wr := textOf) (fun t ht x hx => (parM_sound hx).1) h
    rw [txt_join, this, join_splitN]
theorem par_complete {ps : List Ins} (hp : PValid ps) (h0 : ps ≠ []) : rdP parM (Lib.splitN (txt ps) [59, 32] 4001) = some ps := by
  have h1 := hp.1
  rw [txt_join, splitN_join _ _ (by intro e; exact h0 (List.map_eq_nil_iff.1 e)) (fun w hw => by
    obtain ⟨x, hx, rfl⟩ := List.mem_map.1 hw
    obtain ⟨i, h2, _⟩ := hp.at x hx
    exact textOf_free h2) (by rw [List.length_map]; omega)]
  unfold rdP
  rw [if_neg (by rw [List.length_map]; omega)]
  exact rdAll_complete (wr := textOf) (fun x hx => by
    obtain ⟨i, h2, h3, h4⟩ := hp.at x hx
    exact parM_complete h2 h3 h4 (by omega))
theorem txt_nil {ps : List Ins} (h : txt ps = []) : ps = [] := by
  cases ps with
  | nil => rfl
  | cons x ps =>
    have := textOf_pos x
    rw [txt_join] at h
    cases ps with
    | nil => rw [List.map_cons, List.map_nil, Lib.join_one] at h; rw [h] at this; simp at this
    | cons y ps => rw [List.map_cons, List.map_cons, join_two] at h; simp at h
theorem txt_inj {ps qs : List Ins} (hp : PValid ps) (hq : PValid qs) (h : txt ps = txt qs) : ps = qs := by
  by_cases h0 : ps = []
  · subst h0; exact (txt_nil h.symm).symm
  · by_cases h1 : qs = []
    · subst h1; exact txt_nil h
    · have a := par_complete hp h0
      rw [h, par_complete hq h1] at a
      exact (Option.some.inj a).symm
theorem pv_of {ps : List Ins} (h1 : ps.length ≤ 4000) (h2 : trees ps ≤ 2000000) (h3 : ∀ k, (h : k < ps.length) → right ps[k] k ps.length = true) : PValid ps :=
  ⟨h1, h2, fun k x h => by obtain ⟨hk, rfl⟩ := List.getElem?_eq_some_iff.1 h; exact h3 k hk⟩
theorem progAt_new (w : World) (ps : List Ins) (ty : TypeId) : ProgAt (w.alloc (.cells (progV ps).toArray ty)) w.heap.size 0 ps := by
  have h := RowCells.new w (progV ps) ty
  exact progAt_of h.1 (fun j u hu => by
    rw [show ((⟨w.heap.size, 0, none⟩ : Addr).add j) = ⟨w.heap.size, j, none⟩ from by unfold Addr.add; split <;> simp_all]
    exact h.2 j u hu)
theorem argP_new (w : World) (ps : List Ins) (ty : TypeId) (h : 0 < ps.length) : ArgP (w.alloc (.cells (progV ps).toArray ty)) (.slice (some ⟨w.heap.size, 0, none⟩) ps.length ps.length) ps :=
  .inr ⟨h, _, 0, _, rfl, progAt_new w ps ty⟩
end Go.Proofs.YtmhoacnbmbhcjaaGreatDoor

namespace Go.Proofs.YtmhoacnbmbhcjaaGreatDoor
open Go.RowKit Pl

def P1 : List Ins := [⟨4, 0, 0, 0, []⟩]
def P3 : List Ins := [⟨0, 1, 0, 0, [49, 48, 48]⟩, ⟨2, 0, 1, 0, []⟩, ⟨5, 0, -2, 0, []⟩]
def P4 : List Ins := [⟨5, 0, 1, 0, []⟩]
def P5 : List Ins := [⟨5, 0, 2, 0, []⟩]
def P6 : List Ins := [⟨1, 0, 32, 0, []⟩]
theorem pv1 : PValid P1 := pv_of (by decide) (by decide) (by decide)
theorem pv3 : PValid P3 := pv_of (by decide) (by decide) (by decide)
theorem pv4 : PValid P4 := pv_of (by decide) (by decide) (by decide)
theorem pv5 : ¬ PValid P5 := fun h => absurd (h.2.2 0 _ rfl) (by decide)
theorem pv6 : ¬ PValid P6 := fun h => absurd (h.2.2 0 _ rfl) (by decide)
theorem enc1 : enc (codes P1) = [49, 49, 49, 48, 49, 48, 49, 48, 49, 48, 48, 49, 48, 48, 48] := by decide
theorem txt3 : txt P3 = [115, 101, 116, 32, 49, 32, 49, 48, 48, 59, 32, 99, 111, 110, 115, 32, 48, 32, 49, 32, 48, 59, 32, 106, 117, 109, 112, 32, 48, 32, 45, 50] := by decide +kernel
theorem aw2_code (W : World) (v : Value) (h : ArgP W v P1) : Calls Tryz.prog 44 #[v] W fun e w' => e = .returned (.tuple #[.string ⟨#[49, 49, 49, 48, 49, 48, 49, 48, 49, 48, 48, 49, 48, 48, 48]⟩, .int .i64 0]) ∧ Below W.heap.size W w' :=
  (PCode_arg W v P1 h pv1).mono fun e w' ⟨h1, h2⟩ => by
    rw [enc1] at h1
    rcases h1 with ⟨_, h1⟩ | ⟨h1, _⟩
    · exact ⟨h1, h2⟩
    · exact absurd h1 (by decide)
theorem aw2_decode (W : World) (hE : Env W) : Calls Tryz.prog 46 #[.string ⟨#[49, 49, 49, 48, 49, 48, 49, 48, 49, 48, 48, 49, 48, 48, 48]⟩] W fun e w' => ∃ v, e = .returned (.tuple #[v, .int .i64 0]) ∧ ArgP w' v P1 ∧ Below W.heap.size W w' :=
  (PDecode_yes ⟨#[49, 49, 49, 48, 49, 48, 49, 48, 49, 48, 48, 49, 48, 48, 48]⟩ W (by decide) hE).mono fun e w' ⟨h1, h2⟩ => by
    have h3 := dec_complete pv1 (by rw [enc1]; decide)
    rw [enc1] at h3
    rcases h1 with ⟨ps, v, h1, _, e1, h4⟩ | ⟨h1, _⟩
    · rw [h3] at h1
      cases h1
      exact ⟨v, e1, h4, h2⟩
    · exact absurd pv1 (h1 P1 h3)
theorem aw2_parse (W : World) (hE : Env W) : Calls Tryz.prog 51 #[.string ⟨#[115, 101, 116, 32, 49, 32, 49, 48, 48, 59, 32, 99, 111, 110, 115, 32, 48, 32, 49, 32, 48, 59, 32, 106, 117, 109, 112, 32, 48, 32, 45, 50]⟩] W fun e w' => ∃ v, e = .returned (.tuple #[v, .int .i64 0]) ∧ ArgP w' v P3 ∧ Below W.heap.size W w' :=
  (PParse_some [115, 101, 116, 32, 49, 32, 49, 48, 48, 59, 32, 99, 111, 110, 115, 32, 48, 32, 49, 32, 48, 59, 32, 106, 117, 109, 112, 32, 48, 32, 45, 50] W (by decide) (by decide) hE).mono fun e w' ⟨h1, h2⟩ => by
    have h3 := par_complete pv3 (by decide)
    rw [txt3] at h3
    rcases h1 with ⟨ps, v, h1, _, e1, h4⟩ | ⟨h1, _⟩
    · rw [h3] at h1
      cases h1
      exact ⟨v, e1, h4, h2⟩
    · exact absurd pv3 (h1 P3 h3)
theorem aw2_same (W : World) (v v2 : Value) (ps : List Ins) (h : ArgP W v ps) (h2 : ArgP W v2 ps) (hm : ps.length ≤ 1000) : Calls Tryz.prog 21 #[v, v2] W fun e w' => e = .returned (.bool true) ∧ Below W.heap.size W w' :=
  PSame_arg W v v2 ps ps true h h2 (by omega) (by simp)
theorem aw2_valid (W : World) (v : Value) (ps : List Ins) (q : Bool) (h : ArgP W v ps) (hm : ps.length ≤ 1000) (hz : ∀ x ∈ ps, x.tree.length ≤ 1000) (hq : q = true ↔ PValid ps) : Calls Tryz.prog 59 #[v] W fun e w' => e = .returned (.bool q) ∧ Below W.heap.size W w' :=
  CV_arg W v ps q h (by omega) (fun x hx => by have := hz x hx; omega) hq

set_option maxHeartbeats 3200000 in
set_option maxRecDepth 100000 in
theorem awake2_any (w : World) (hE : Env w) : Calls Tryz.prog 52 #[] w fun e w' => e = .returned (.bool true) ∧ Below w.heap.size w w' := by
  have HE := Lib.hid hE
  clear hE
  go_enter Tryz.func52, Tryz.ntmps52
  have HA := Lib.hid (argP_new w P1 64 (by decide))
  have hb0 : Below w.heap.size w (w.alloc (.cells (progV P1).toArray 64)) := (Below.refl _ w).alloc (Nat.le_refl _) _
  have HB0 := Lib.hid hb0
  clear hb0
  go_wp2_with fail
  refine (aw2_code _ _ HA.out).mono ?_
  rintro e w1 ⟨rfl, h1⟩
  have HB1 := Lib.hid (HB0.out.trans (h1.mono HB0.out.size))
  have HA1 := Lib.hid (HA.out.below h1)
  clear h1
  go_wp2_with fail
  refine (aw2_decode _ (HE.out.below HB1.out)).mono ?_
  rintro e w2 ⟨v2, rfl, ha2, h2⟩
  have HV2 := Lib.hid ha2
  have HA2 := Lib.hid (HA1.out.below h2)
  have HB2 := Lib.hid (HB1.out.trans (h2.mono HB1.out.size))
  clear h2 ha2
  go_wp2_with fail
  refine (aw2_parse _ (HE.out.below HB2.out)).mono ?_
  rintro e w3 ⟨v3, rfl, ha3, h3⟩
  have HV3 := Lib.hid ha3
  have HV2' := Lib.hid (HV2.out.below h3)
  have HA3 := Lib.hid (HA2.out.below h3)
  have HB3 := Lib.hid (HB2.out.trans (h3.mono HB2.out.size))
  clear h3 ha3
  go_wp2_with fail
  refine (aw2_same _ _ _ P1 HV2'.out HA3.out (by decide)).mono ?_
  rintro e w4 ⟨rfl, h4⟩
  have HV4 := Lib.hid (HV3.out.below h4)
  have HB4 := Lib.hid (HB3.out.trans (h4.mono HB3.out.size))
  have hb5 : Below w4.heap.size w4 (w4.alloc (.cells (progV P3).toArray 64)) := (Below.refl _ w4).alloc (Nat.le_refl _) _
  have HB5 := Lib.hid (HB4.out.trans (hb5.mono HB4.out.size))
  have HV5 := Lib.hid (HV4.out.below hb5)
  have HL5 := Lib.hid (argP_new w4 P3 64 (by decide))
  clear h4 hb5
  go_wp2_with fail
  refine (aw2_same _ _ _ P3 HV5.out HL5.out (by decide)).mono ?_
  rintro e w6 ⟨rfl, h6⟩
  have HB6 := Lib.hid (HB5.out.trans (h6.mono HB5.out.size))
  have HB7 := Lib.hid (HB6.out.alloc HB6.out.size (.cells (progV P4).toArray 64))
  have HL7 := Lib.hid (argP_new w6 P4 64 (by decide))
  clear h6
  go_wp2_with fail
  refine (aw2_valid _ _ P4 true HL7.out (by decide) (by decide) (by simp [pv4])).mono ?_
  rintro e w8 ⟨rfl, h8⟩
  have HB8 := Lib.hid (HB7.out.trans (h8.mono HB7.out.size))
  have HB9 := Lib.hid (HB8.out.alloc HB8.out.size (.cells (progV P5).toArray 64))
  have HL9 := Lib.hid (argP_new w8 P5 64 (by decide))
  clear h8
  go_wp2_with fail
  refine (aw2_valid _ _ P5 false HL9.out (by decide) (by decide) (by simp [pv5])).mono ?_
  rintro e w10 ⟨rfl, h10⟩
  have HB10 := Lib.hid (HB9.out.trans (h10.mono HB9.out.size))
  have HB11 := Lib.hid (HB10.out.alloc HB10.out.size (.cells (progV P6).toArray 64))
  have HL11 := Lib.hid (argP_new w10 P6 64 (by decide))
  clear h10
  go_wp2_with fail
  refine (aw2_valid _ _ P6 false HL11.out (by decide) (by decide) (by simp [pv6])).mono ?_
  rintro e w12 ⟨rfl, h12⟩
  have HB12 := Lib.hid (HB11.out.trans (h12.mono HB11.out.size))
  clear h12
  go_wp2_with fail
  go_ret
  exact ⟨rfl, HB12.out⟩
end Go.Proofs.YtmhoacnbmbhcjaaGreatDoor

namespace Go.Proofs.YtmhoacnbmbhcjaaGreatDoor
open Go.RowKit Pl

theorem S_back (s : ByteArray) : S s.data.toList = s := by simp [S]
def DGen (s : ByteArray) (w : World) (e : Ending) (w' : World) : Prop :=
  ((∃ ps v, PValid ps ∧ enc (codes ps) = s.data.toList ∧ vld s.data.toList = true ∧ e = .returned (.tuple #[v, .int .i64 0]) ∧ ArgP w' v ps) ∨
   (∃ n : Int, (n = 1 ∧ vld s.data.toList = false ∨ n = 4 ∧ vld s.data.toList = true ∧ ∀ ps, PValid ps → enc (codes ps) ≠ s.data.toList) ∧ e = .returned (.tuple #[.slice none 0 0, .int .i64 n]))) ∧ Below w.heap.size w w'
theorem Decode_gen (s : ByteArray) (w : World) (hs : s.size ≤ 281474976710656) (hE : Env w) :
    Calls Tryz.prog 46 #[.string s] w (DGen s w) := by
  cases hv : vld s.data.toList with
  | false => exact (PDecode_no s w hs hv).mono fun e w' ⟨h1, h2⟩ => ⟨.inr ⟨1, .inl ⟨rfl, hv⟩, h1⟩, h2⟩
  | true =>
    refine (PDecode_yes s w hv hE).mono fun e w' ⟨h1, h2⟩ => ⟨?_, h2⟩
    rcases h1 with ⟨ps, v, h1, hp, e1, h4⟩ | ⟨h1, e1⟩
    · exact .inl ⟨ps, v, hp, dec_sound hv h1, hv, e1, h4⟩
    · exact .inr ⟨4, .inr ⟨rfl, hv, fun ps hp he => h1 ps (by rw [← he]; exact dec_complete hp (by rw [he]; exact (vld_iff.1 hv).1)) hp⟩, e1⟩
def PGen (s : ByteArray) (w : World) (e : Ending) (w' : World) : Prop :=
  ((∃ ps v, PValid ps ∧ txt ps = s.data.toList ∧ s.size ≤ 4000000 ∧ e = .returned (.tuple #[v, .int .i64 0]) ∧ ArgP w' v ps) ∨
   ((4000000 < s.size ∨ ∀ ps, PValid ps → txt ps ≠ s.data.toList) ∧ e = .returned (.tuple #[.slice none 0 0, .int .i64 5]))) ∧ Below w.heap.size w w'
theorem Parse_gen (s : ByteArray) (w : World) (hs : s.size ≤ 281474976710656) (hE : Env w) :
    Calls Tryz.prog 51 #[.string s] w (PGen s w) := by
  have hz : s.data.toList.length = s.size := by simp
  by_cases hl : 4000000 < s.size
  · have := PParse_long s.data.toList w (by omega) (by omega)
    rw [S_back] at this
    exact this.mono fun e w' ⟨h1, h2⟩ => ⟨.inr ⟨.inl hl, h1⟩, h2⟩
  · by_cases h0 : s.data.toList = []
    · have := PParse_nil w
      rw [← h0, S_back] at this
      exact this.mono fun e w' ⟨h1, h2⟩ => ⟨.inl ⟨[], _, pvalid_nil, by rw [h0]; rfl, by omega, h1, .inl ⟨rfl, .inl rfl⟩⟩, h2⟩
    · have := PParse_some s.data.toList w h0 (by omega) hE
      rw [S_back] at this
      refine this.mono fun e w' ⟨h1, h2⟩ => ⟨?_, h2⟩
      rcases h1 with ⟨ps, v, h1, hp, e1, h4⟩ | ⟨h1, e1⟩
      · exact .inl ⟨ps, v, hp, par_sound h1, by omega, e1, h4⟩
      · exact .inr ⟨.inr fun ps hp he => h1 ps (by rw [← he]; exact par_complete hp (by rintro rfl; exact h0 he.symm)) hp, e1⟩
theorem Code_to (s : ByteArray) (ps : List Ins) (w : World) (v : Value) (h : ArgP w v ps) (hp : PValid ps) (he : enc (codes ps) = s.data.toList) (hv : vld s.data.toList = true) :
    Calls Tryz.prog 44 #[v] w fun e w' => e = .returned (.tuple #[.string s, .int .i64 0]) ∧ Below w.heap.size w w' := by
  refine (PCode_arg w v ps h hp).mono fun e w' ⟨h1, h2⟩ => ⟨?_, h2⟩
  rw [he, S_back] at h1
  rcases h1 with ⟨_, h1⟩ | ⟨h1, _⟩
  · exact h1
  · have := (vld_iff.1 hv).1; omega
theorem CV_yes (w : World) (v : Value) (ps : List Ins) (h : ArgP w v ps) (hp : PValid ps) :
    Calls Tryz.prog 59 #[v] w fun e w' => e = .returned (.bool true) ∧ Below w.heap.size w w' :=
  CV_arg w v ps true h (by have := hp.1; omega) (fun x hx => by have := tree_le x hx; have := hp.2.1; omega) (by simp [hp])
end Go.Proofs.YtmhoacnbmbhcjaaGreatDoor
