/- Package code: Code. By an AI agent. -/
import Derived.Test.YtlfoigkpfooopaaGreatDoorPReads
import Derived.Test.YtlfoigkpfooopaaGreatDoorText
namespace Go.Proofs.YtlfoigkpfooopaaGreatDoor
open Go.RowKit Pl

theorem right_fine {x : Ins} {i n : Int} {k : Nat} (h : right x i n = true) (hi0 : 0 ≤ i) (hi : i ≤ 4000) (hn : n ≤ 4000) (ho : x.op = k) : Fine x ∧ ∀ f ∈ fldsOf k, f.fits x := by
  obtain ⟨ha, hc⟩ := right_cases h
  obtain ⟨a, hra, hla⟩ := reg_nat ha
  obtain ⟨op, a0, b, c, t⟩ := x
  simp only at hra hc ho; subst hra
  rcases hc with ⟨rfl, rfl, rfl, hv⟩ | ⟨ho2, hb, rfl, rfl⟩ | ⟨rfl, hb, hc, rfl⟩ | ⟨rfl, rfl, rfl, hb1, hb2⟩
  · obtain rfl : k = 0 := by omega
    refine ⟨⟨by simp only; omega, by simp only; omega, by simp only; omega⟩, fun f hf => ?_⟩
    simp [fldsOf] at hf
    rcases hf with rfl | rfl <;> trivial
  · obtain ⟨b, rfl, hlb⟩ := reg_nat hb
    refine ⟨⟨by simp only; omega, by simp only; omega, by simp only; omega⟩, fun f hf => ?_⟩
    have e : fldsOf k = [.reg 1, .reg 2] := by
      have : k = 1 ∨ k = 3 ∨ k = 4 := by omega
      rcases this with rfl | rfl | rfl <;> rfl
    rw [e] at hf
    simp at hf
    rcases hf with rfl | rfl
    · trivial
    · simp only [Fld.fits]; omega
  · obtain ⟨b, rfl, hlb⟩ := reg_nat hb
    obtain ⟨c, rfl, hlc⟩ := reg_nat hc
    obtain rfl : k = 2 := by omega
    refine ⟨⟨by simp only; omega, by simp only; omega, by simp only; omega⟩, fun f hf => ?_⟩
    simp [fldsOf] at hf
    rcases hf with rfl | rfl | rfl
    · trivial
    · simp only [Fld.fits]; omega
    · trivial
  · obtain rfl : k = 5 := by omega
    refine ⟨⟨by simp only; omega, by simp only; omega, by simp only; omega⟩, fun f hf => ?_⟩
    simp [fldsOf] at hf
    rcases hf with rfl | rfl <;> trivial
def COne (x : Ins) (w : World) (e : Ending) (w' : World) : Prop :=
  (((codeOf x).length ≤ 2000000 ∧ e = .returned (.tuple #[.string (S (codeOf x)), .int .i64 0])) ∨ (2000000 < (codeOf x).length ∧ e = .returned (.tuple #[.string (S []), .int .i64 3]))) ∧ Below w.heap.size w w'
theorem mcode_x (t : Nat) (x : Ins) (i n : Int) (w : World) (hT : TabGood w t) (h : right x i n = true) (hi0 : 0 ≤ i) (hi : i ≤ 4000) (hn : n ≤ 4000) :
    Calls Tryz.prog 29 #[.pointer (some ⟨t, 0, none⟩), .agg #[.int .i64 x.op, .int .i64 x.a, .int .i64 x.b, .int .i64 x.c, .string (S x.tree)]] w (COne x w) := by
  obtain ⟨k, hk, ho⟩ := right_k h
  obtain ⟨h1, h2⟩ := right_fine h hi0 hi hn ho
  have := mcode t k x w hT hk ho h1 h2 (cods_vld h hi0 hi hn ho)
  rw [nest_code hk ho] at this
  rw [ho]
  exact this
theorem List_big (w : World) (v : Value) (ls : List (List UInt8)) (h : ArgS w v ls) (hn : AllV ls) (hz : 2000000 < (enc ls).length) (hm : ls.length ≤ 281474976710656) :
    Calls Tryz.prog 30 #[v] w fun e w' => e = .returned (.tuple #[.string (S []), .int .i64 3]) ∧ Below w.heap.size w w' := by
  rcases h with ⟨rfl, a, cap, rfl⟩ | ⟨_, b, off, cap, rfl, hc⟩
  · exact absurd hz (by decide)
  · exact List_size w b off cap ls hc hm hn hz
def CRes (ps : List Ins) (w : World) (e : Ending) (w' : World) : Prop :=
  (((enc (codes ps)).length ≤ 2000000 ∧ e = .returned (.tuple #[.string (S (enc (codes ps))), .int .i64 0])) ∨ (2000000 < (enc (codes ps)).length ∧ e = .returned (.tuple #[.string (S []), .int .i64 3]))) ∧ Below w.heap.size w w'
theorem List_codes (w w0 : World) (v : Value) (ps : List Ins) (h : ArgS w v (codes ps)) (hn : AllV (codes ps)) (hm : ps.length ≤ 4000) (hb : Below w0.heap.size w0 w) :
    Calls Tryz.prog 30 #[v] w (CRes ps w0) := by
  have hl := codes_len ps
  rcases Nat.lt_or_ge 2000000 (enc (codes ps)).length with hz | hz
  · exact (List_big w v _ h hn hz (by omega)).mono fun e w' ⟨h1, h2⟩ => ⟨.inr ⟨hz, h1⟩, hb.trans (h2.mono hb.size)⟩
  · exact (List_ok w v _ h hn hz (by omega)).mono fun e w' ⟨h1, h2⟩ => ⟨.inl ⟨hz, h1⟩, hb.trans (h2.mono hb.size)⟩
theorem set_take {α : Type} (xs : List α) (k : Nat) (v : α) (h : k < xs.length) : (xs.set k v).take (k + 1) = xs.take k ++ [v] := by
  rw [List.take_add_one, List.getElem?_set_self h, Option.toList_some, List.take_set_of_le (Nat.le_refl k)]

theorem tree_le {ps : List Ins} : ∀ x ∈ ps, x.tree.length ≤ trees ps := by
  intro x hx
  obtain ⟨k, hk, rfl⟩ := List.mem_iff_getElem.1 hx
  have h := treesTo_succ (ps := ps) (k := k) (List.getElem?_eq_getElem hk)
  have := treesTo_top (ps := ps) (k + 1)
  omega
end Go.Proofs.YtlfoigkpfooopaaGreatDoor

namespace Go.Proofs.YtlfoigkpfooopaaGreatDoor
open Go.RowKit Pl

set_option maxHeartbeats 1600000 in
set_option maxRecDepth 100000 in
theorem PCode_some (w : World) (b off cap : Nat) (ps : List Ins) (hc : ProgAt w b off ps) (h0 : 0 < ps.length) (hp : PValid ps) :
    Calls Tryz.prog 11 #[.slice (some ⟨b, off, none⟩) ps.length cap] w (CRes ps w) := by
  obtain ⟨i0, hi, hz0, hz1, hz2⟩ := info_parts Tryz.infoStr
  have hl := hp.1
  have HV := Lib.hid (CV_arg w (.slice (some ⟨b, off, none⟩) ps.length cap) ps true (.inr ⟨h0, b, off, cap, rfl, hc⟩) (by omega) (fun x hx => by
    obtain ⟨i, h2, _⟩ := hp.at x hx
    have := hp.2.1
    have := tree_le x hx
    omega) (by simp [hp]))
  have HC := Lib.hid hc; have HP := Lib.hid hp
  obtain ⟨n, hn⟩ : ∃ n, n = ps.length := ⟨_, rfl⟩
  rw [← hn] at hl h0 HV ⊢
  have HN := Lib.hid hn
  clear hc hp hn
  go_enter Tryz.func11, Tryz.ntmps11
  go_wp2_with fail
  refine HV.out.mono ?_
  rintro e w1 ⟨rfl, h1⟩
  go_wp2_with fail
  refine (operations_good _).mono ?_
  rintro e w2 ⟨t, rfl, hT, h2⟩
  have hb2 := h1.trans (h2.mono h1.size)
  have HT := Lib.hid hT
  clear hT HV
  go_wp2_with (at_make; refine wpList_make_full _ rfl _ _ 40 rfl w.heap.size 9 i0 (.string ⟨#[]⟩) 1 Tryz.underlying40 hi hz0 hz1 .i64 .i64 _ _ n rfl rfl rfl rfl (by rw [hz2]; omega) (by unfold maxLen; omega) hb2.size ?_)
  intro w3 hown hgrow
  have hb3 : Below w2.heap.size w2 w3 := (Below.refl _ _).grown hgrow (Nat.le_refl _) (by simp)
  obtain ⟨xs, HO⟩ : ∃ xs, Hid (w3.ownsRow w.heap.size 9 1 (.slice (some ⟨w2.heap.size, 0, none⟩) n n) n xs) := ⟨_, Lib.hid hown⟩
  obtain ⟨G, hG⟩ : ∃ G, G = w2.heap.size := ⟨_, rfl⟩
  rw [← hG] at HO ⊢
  have hs2 : w.heap.size ≤ G := by rw [hG]; exact hb2.size
  have HG := Lib.hid hG
  clear hG
  have hbw : b < w.heap.size := HC.out.1
  have HB3 := Lib.hid hb3
  have hb4 : Below w.heap.size w w3 := hb2.trans (hb3.mono hb2.size)
  clear hown hgrow hi hz0 hz1 hz2 hb3 hb2 h1 h2
  go_wp2
  go_loopw [19] (fun i wr => ∃ (k : Nat) (ys : List Value), k ≤ n ∧ i = .int .i64 k ∧ Hid (wr.ownsRow w.heap.size 9 1 (.slice (some ⟨G, 0, none⟩) n n) n ys) ∧ Hid (ys.take k = strsV (codes (ps.take k))) ∧ Hid (∀ x ∈ ps.take k, (codeOf x).length ≤ 2000000) ∧ Hid (Below w2.heap.size w2 wr) ∧ Below w.heap.size w wr) (fun i _ => n - (intOf i).toNat)
  case atStart => exact ⟨0, xs, Nat.zero_le _, rfl, HO, Lib.hid (by simp [strsV, codes]), Lib.hid (by simp), HB3, hb4⟩
  case round =>
    clear HO hb4 HB3
    obtain ⟨k, ys, hk, rfl, HO, HY, HL, HB, hb⟩ := hrel
    have hsz := hb.size
    by_cases hlt : k < n
    · have hk1 : (k : Int) < (n : Int) := by omega
      obtain ⟨x, hx⟩ := get_at (ps := ps) (k := k) (by have := HN.out; omega)
      obtain ⟨a0, a1, a2, a3, a4⟩ := HC.out.2 k x hx
      have k0 := (hb.cell (p := ⟨b, off + k * 5, none⟩) hbw).trans a0
      have k1 := (hb.cell (p := ⟨b, off + k * 5 + 1, none⟩) hbw).trans a1
      have k2 := (hb.cell (p := ⟨b, off + k * 5 + 2, none⟩) hbw).trans a2
      have k3 := (hb.cell (p := ⟨b, off + k * 5 + 3, none⟩) hbw).trans a3
      have k4 := (hb.cell (p := ⟨b, off + k * 5 + 4, none⟩) hbw).trans a4
      have HX := Lib.hid hx
      have HR : Hid (right x k ps.length = true) := Lib.hid (HP.out.2.2 k x hx)
      clear hx a0 a1 a2 a3 a4
      have hBx := HB.out.trans ((Below.refl wr.heap.size wr).alloc (Nat.le_refl _) (.cells #[.int .i64 x.op, .int .i64 x.a, .int .i64 x.b, .int .i64 x.c, .string (S x.tree)] 46) |>.mono HB.out.size)
      have hb5 : Below w.heap.size w (wr.alloc (.cells #[.int .i64 x.op, .int .i64 x.a, .int .i64 x.b, .int .i64 x.c, .string (S x.tree)] 46)) := hb.alloc hsz _
      have HBX := Lib.hid hBx
      have HO5 := Lib.hid (HO.out.alloc (.cells #[.int .i64 x.op, .int .i64 x.a, .int .i64 x.b, .int .i64 x.c, .string (S x.tree)] 46))
      clear hBx
      go_wp2_with fail
      refine (mcode_x t x k ps.length _ (HT.out.below HBX.out) HR.out (by omega) (by omega) (by have := HN.out; omega)).mono ?_
      rintro e w6 ⟨⟨hle, rfl⟩ | ⟨hle, rfl⟩, h6⟩
      · have hb6 := hb5.trans (h6.mono hb5.size)
        have own6 := own_below HO5.out h6
        have c0 := own6.cellAt k (by omega)
        obtain ⟨u, hu⟩ : ∃ u, ys[k]? = some u := ⟨ys[k]'(by have := own6.1; omega), List.getElem?_eq_getElem _⟩
        rw [hu] at c0
        have f0 := own6.frozenAt k
        have HO7 := Lib.hid (own6.stored k (.string (S (codeOf x)))).1
        have HB7 := Lib.hid (hb6.setCell (p := ⟨G, k, none⟩) hs2 (.string (S (codeOf x))))
        have HBT := Lib.hid ((HBX.out.trans (h6.mono HBX.out.size)).setCell (p := ⟨G, k, none⟩) (Nat.le_of_eq HG.out.symm) (.string (S (codeOf x))))
        have HY7 : Hid ((ys.set k (.string (S (codeOf x)))).take (k + 1) = strsV (codes (ps.take (k + 1)))) := Lib.hid (by
          rw [set_take _ _ _ (by have := own6.1; omega), HY.out, codes_take HX.out, strsV_snoc])
        have HL7 : Hid (∀ y ∈ ps.take (k + 1), (codeOf y).length ≤ 2000000) := Lib.hid (fun y hy => by
          rw [List.take_add_one, HX.out, Option.toList_some, List.mem_append] at hy
          rcases hy with hy | hy
          · exact HL.out y hy
          · simp at hy; rw [hy]; exact hle)
        clear own6 hb6 hb5 hb h6 hle hu
        go_wp2_with fail
        go_roundw
        case rel => exact ⟨k + 1, _, by omega, by go_num, HO7, HY7, HL7, HBT, HB7.out⟩
        case measure => simp [intOf]; omega
      · have hb6 := hb5.trans (h6.mono hb5.size)
        have HF : Hid (2000000 < (enc (codes ps)).length) := Lib.hid (by
          have := enc_item (ls := codes ps) (codeOf x) (List.mem_map_of_mem (List.mem_of_getElem? HX.out))
          omega)
        clear hle h6 hb5 hb
        go_wp2_with fail
        go_ret2
        exact ⟨.inr ⟨HF.out, rfl⟩, hb6⟩
    · obtain rfl : k = n := by omega
      have hall : ps.take k = ps := List.take_of_length_le (by have := HN.out; omega)
      have HA : Hid (ArgS wr (.slice (some ⟨G, 0, none⟩) k k) (codes ps)) := Lib.hid (by
        have h := HO.out
        rw [show ys = strsV (codes ps) by rw [← hall, ← HY.out, List.take_of_length_le (by have := HO.out.1; omega)]] at h
        exact arg_own h)
      have HV : Hid (AllV (codes ps)) := Lib.hid (fun l hm => by
        obtain ⟨x, hx, rfl⟩ := List.mem_map.1 hm
        obtain ⟨i, h2, h3, h4⟩ := HP.out.at x hx
        exact vld_code h2 h3 h4 (by have := HP.out.1; omega) (HL.out x (by rw [hall]; exact hx)))
      have HB8 := Lib.hid hb
      clear hb
      go_wp2_with fail
      refine (List_codes _ w _ ps HA.out HV.out HP.out.1 HB8.out).mono ?_
      rintro e w9 ⟨⟨hle, rfl⟩ | ⟨hle, rfl⟩, h9⟩
      · have HLE := Lib.hid hle
        clear hle
        go_wp2_with fail
        go_ret2
        exact ⟨.inl ⟨HLE.out, rfl⟩, h9⟩
      · have HLE := Lib.hid hle
        clear hle
        go_wp2_with fail
        go_ret2
        exact ⟨.inr ⟨HLE.out, rfl⟩, h9⟩
end Go.Proofs.YtlfoigkpfooopaaGreatDoor

namespace Go.Proofs.YtlfoigkpfooopaaGreatDoor
open Go.RowKit Pl

theorem Join_l (w : World) (b off c : Nat) (ls : List (List UInt8)) (sep : List UInt8) (h : StrAt w b off ls) (hN : ls.length ≤ 140737488355328) (hc : ls.length ≤ c) (hlen : (Lib.join ls sep).length ≤ 140737488355328) :
    Calls Tryz.prog 32 #[.slice (some ⟨b, off, none⟩) ls.length c, .string (S sep)] w fun e w' => e = .returned (.string (S (Lib.join ls sep))) ∧ Below w.heap.size w w' := by
  have e1 : (ls.map S).map (·.data.toList) = ls := by rw [List.map_map]; conv => rhs; rw [← List.map_id ls]
                                                      exact List.map_congr_left fun x _ => by simp
  have e2 : (S sep).data.toList = sep := by simp
  have := Tryz.strings_Join b off c (ls.map S) (S sep) w (fun j x hx => by
    rw [List.getElem?_map] at hx
    obtain ⟨y, hy, rfl⟩ := omap hx
    have hj := (List.getElem?_eq_some_iff.1 hy).1
    rw [h.2 j hj, List.getD_eq_getElem?_getD, hy]; rfl) h.1 (by simpa using hN) (by simpa using hc) (by rw [e1, e2]; exact hlen)
  rw [e1, e2, List.length_map] at this
  exact this
theorem mtext_x (t : Nat) (x : Ins) (i n : Int) (w : World) (hT : TabGood w t) (h : right x i n = true) (hi0 : 0 ≤ i) (hi : i ≤ 4000) (hn : n ≤ 4000) (ht : x.tree.length ≤ 2000000) (hE : Env w) :
    Calls Tryz.prog 31 #[.pointer (some ⟨t, 0, none⟩), .agg #[.int .i64 x.op, .int .i64 x.a, .int .i64 x.b, .int .i64 x.c, .string (S x.tree)]] w fun e w' => e = .returned (.string (S (textOf x))) ∧ Below w.heap.size w w' := by
  obtain ⟨k, hk, ho⟩ := right_k h
  obtain ⟨h1, h2⟩ := right_fine h hi0 hi hn ho
  have hl := textOf_len h hi0 hi hn
  have := mtext t k x w hT hk ho h1 h2 (by rw [text_textM hk ho]; omega) hE
  rw [text_textM hk ho] at this
  rw [ho]
  exact this
def TRes (ps : List Ins) (w : World) (e : Ending) (w' : World) : Prop :=
  (((txt ps).length ≤ 4000000 ∧ e = .returned (.tuple #[.string (S (txt ps)), .int .i64 0])) ∨ (4000000 < (txt ps).length ∧ e = .returned (.tuple #[.string (S []), .int .i64 3]))) ∧ Below w.heap.size w w'
theorem texts_take {ps : List Ins} {k : Nat} {x : Ins} (h : ps[k]? = some x) : (ps.take (k + 1)).map textOf = (ps.take k).map textOf ++ [textOf x] := by
  rw [List.take_add_one, h, Option.toList_some, List.map_append]; rfl
theorem txt_len {ps : List Ins} (h : PValid ps) : (txt ps).length ≤ 30000000 := by
  have h1 := txtTo_len h.1 h.2.2 ps.length
  have h2 := treesTo_top (ps := ps) ps.length
  have h3 := h.1; have h4 := h.2.1
  unfold txt
  have : ps.length * 5002 ≤ 4000 * 5002 := Nat.mul_le_mul_right _ h3
  omega

set_option maxHeartbeats 1600000 in
set_option maxRecDepth 100000 in
theorem PText_some (w : World) (b off cap : Nat) (ps : List Ins) (hc : ProgAt w b off ps) (h0 : 0 < ps.length) (hp : PValid ps) (hE : Env w) :
    Calls Tryz.prog 12 #[.slice (some ⟨b, off, none⟩) ps.length cap] w (TRes ps w) := by
  obtain ⟨i0, hi, hz0, hz1, hz2⟩ := info_parts Tryz.infoStr
  have hl := hp.1
  have HV := Lib.hid (CV_arg w (.slice (some ⟨b, off, none⟩) ps.length cap) ps true (.inr ⟨h0, b, off, cap, rfl, hc⟩) (by omega) (fun x hx => by
    have := hp.2.1
    have := tree_le x hx
    omega) (by simp [hp]))
  have HC := Lib.hid hc; have HP := Lib.hid hp; have HE := Lib.hid hE
  obtain ⟨n, hn⟩ : ∃ n, n = ps.length := ⟨_, rfl⟩
  rw [← hn] at hl h0 HV ⊢
  have HN := Lib.hid hn
  clear hc hp hn hE
  go_enter Tryz.func12, Tryz.ntmps12
  go_wp2_with fail
  refine HV.out.mono ?_
  rintro e w1 ⟨rfl, h1⟩
  go_wp2_with fail
  refine (operations_good _).mono ?_
  rintro e w2 ⟨t, rfl, hT, h2⟩
  have hb2 := h1.trans (h2.mono h1.size)
  have HT := Lib.hid hT
  clear hT HV
  go_wp2_with (at_make; refine wpList_make_full _ rfl _ _ 40 rfl w.heap.size 9 i0 (.string ⟨#[]⟩) 1 Tryz.underlying40 hi hz0 hz1 .i64 .i64 _ _ n rfl rfl rfl rfl (by rw [hz2]; omega) (by unfold maxLen; omega) hb2.size ?_)
  intro w3 hown hgrow
  have hb3 : Below w2.heap.size w2 w3 := (Below.refl _ _).grown hgrow (Nat.le_refl _) (by simp)
  obtain ⟨xs, HO⟩ : ∃ xs, Hid (w3.ownsRow w.heap.size 9 1 (.slice (some ⟨w2.heap.size, 0, none⟩) n n) n xs) := ⟨_, Lib.hid hown⟩
  obtain ⟨G, hG⟩ : ∃ G, G = w2.heap.size := ⟨_, rfl⟩
  rw [← hG] at HO ⊢
  have hs2 : w.heap.size ≤ G := by rw [hG]; exact hb2.size
  have HG := Lib.hid hG
  clear hG
  have hbw : b < w.heap.size := HC.out.1
  have HB3 := Lib.hid hb3
  have hb4 : Below w.heap.size w w3 := hb2.trans (hb3.mono hb2.size)
  clear hown hgrow hi hz0 hz1 hz2 hb3 hb2 h1 h2
  go_wp2
  go_loopw [18] (fun i wr => ∃ (k : Nat) (ys : List Value), k ≤ n ∧ i = .int .i64 k ∧ Hid (wr.ownsRow w.heap.size 9 1 (.slice (some ⟨G, 0, none⟩) n n) n ys) ∧ Hid (ys.take k = strsV ((ps.take k).map textOf)) ∧ Hid (Below w2.heap.size w2 wr) ∧ Below w.heap.size w wr) (fun i _ => n - (intOf i).toNat)
  case atStart => exact ⟨0, xs, Nat.zero_le _, rfl, HO, Lib.hid (by simp [strsV]), HB3, hb4⟩
  case round =>
    clear HO hb4 HB3
    obtain ⟨k, ys, hk, rfl, HO, HY, HB, hb⟩ := hrel
    have hsz := hb.size
    by_cases hlt : k < n
    · have hk1 : (k : Int) < (n : Int) := by omega
      obtain ⟨x, hx⟩ := get_at (ps := ps) (k := k) (by have := HN.out; omega)
      obtain ⟨a0, a1, a2, a3, a4⟩ := HC.out.2 k x hx
      have k0 := (hb.cell (p := ⟨b, off + k * 5, none⟩) hbw).trans a0
      have k1 := (hb.cell (p := ⟨b, off + k * 5 + 1, none⟩) hbw).trans a1
      have k2 := (hb.cell (p := ⟨b, off + k * 5 + 2, none⟩) hbw).trans a2
      have k3 := (hb.cell (p := ⟨b, off + k * 5 + 3, none⟩) hbw).trans a3
      have k4 := (hb.cell (p := ⟨b, off + k * 5 + 4, none⟩) hbw).trans a4
      have HX := Lib.hid hx
      have HR : Hid (right x k ps.length = true) := Lib.hid (HP.out.2.2 k x hx)
      clear hx a0 a1 a2 a3 a4
      have hBx := HB.out.trans ((Below.refl wr.heap.size wr).alloc (Nat.le_refl _) (.cells #[.int .i64 x.op, .int .i64 x.a, .int .i64 x.b, .int .i64 x.c, .string (S x.tree)] 46) |>.mono HB.out.size)
      have hb5 : Below w.heap.size w (wr.alloc (.cells #[.int .i64 x.op, .int .i64 x.a, .int .i64 x.b, .int .i64 x.c, .string (S x.tree)] 46)) := hb.alloc hsz _
      have HBX := Lib.hid hBx
      have HO5 := Lib.hid (HO.out.alloc (.cells #[.int .i64 x.op, .int .i64 x.a, .int .i64 x.b, .int .i64 x.c, .string (S x.tree)] 46))
      have HE5 := Lib.hid (HE.out.below hb5)
      clear hBx
      go_wp2_with fail
      refine (mtext_x t x k ps.length _ (HT.out.below HBX.out) HR.out (by omega) (by omega) (by have := HN.out; omega) (Nat.le_trans (tree_le x (List.mem_of_getElem? HX.out)) HP.out.2.1) HE5.out).mono ?_
      rintro e w6 ⟨rfl, h6⟩
      have hb6 := hb5.trans (h6.mono hb5.size)
      have own6 := own_below HO5.out h6
      have c0 := own6.cellAt k (by omega)
      obtain ⟨u, hu⟩ : ∃ u, ys[k]? = some u := ⟨ys[k]'(by have := own6.1; omega), List.getElem?_eq_getElem _⟩
      rw [hu] at c0
      have f0 := own6.frozenAt k
      have HO7 := Lib.hid (own6.stored k (.string (S (textOf x)))).1
      have HB7 := Lib.hid (hb6.setCell (p := ⟨G, k, none⟩) hs2 (.string (S (textOf x))))
      have HBT := Lib.hid ((HBX.out.trans (h6.mono HBX.out.size)).setCell (p := ⟨G, k, none⟩) (Nat.le_of_eq HG.out.symm) (.string (S (textOf x))))
      have HY7 : Hid ((ys.set k (.string (S (textOf x)))).take (k + 1) = strsV ((ps.take (k + 1)).map textOf)) := Lib.hid (by
        rw [set_take _ _ _ (by have := own6.1; omega), HY.out, texts_take HX.out, strsV_snoc])
      clear own6 hb6 hb5 hb h6 hu
      go_wp2_with fail
      go_roundw
      case rel => exact ⟨k + 1, _, by omega, by go_num, HO7, HY7, HBT, HB7.out⟩
      case measure => simp [intOf]; omega
    · obtain rfl : k = n := by omega
      have hall : ps.take k = ps := List.take_of_length_le (by have := HN.out; omega)
      have hown : wr.ownsRow w.heap.size 9 1 (.slice (some ⟨G, 0, none⟩) k k) k (strsV (ps.map textOf)) := by
        have h := HO.out
        rwa [show ys = strsV (ps.map textOf) by rw [← hall, ← HY.out, List.take_of_length_le (by have := HO.out.1; omega)]] at h
      have hm : (ps.map textOf).length = k := by rw [List.length_map]; exact HN.out.symm
      have hS : StrAt wr G 0 (ps.map textOf) := by
        refine ⟨(hown.lt G rfl).2, fun j hj => ?_⟩
        have := hown.cellAt j (by omega)
        rw [Nat.zero_add, this, strsV, List.getElem?_map, List.getD_eq_getElem?_getD, List.getElem?_eq_getElem hj]; rfl
      have HJ := Join_l wr G 0 k (ps.map textOf) [59, 32] hS (by omega) (by omega) (by rw [← txt_join]; have := txt_len HP.out; omega)
      rw [hm, ← txt_join] at HJ
      have HJ := Lib.hid HJ
      have HB8 := Lib.hid hb
      have hlen := txt_len HP.out
      generalize hX : txt ps = X at *
      have HXX := Lib.hid hX
      clear hb hS hown hm hX
      go_wp2_with fail
      refine HJ.out.mono ?_
      rintro e w9 ⟨rfl, h9⟩
      have HB9 := Lib.hid (HB8.out.trans (h9.mono HB8.out.size))
      have hz9 : (S X).size = X.length := S_size X
      clear h9
      by_cases hle : X.length ≤ 4000000
      · have hle2 : (X.length : Int) ≤ 4000000 := by omega
        go_wp2_with fail
        go_ret2
        exact ⟨.inl ⟨by rw [HXX.out]; exact hle, by rw [HXX.out]; rfl⟩, HB9.out⟩
      · have hle2 : (4000000 : Int) < (X.length : Int) := by omega
        go_wp2_with fail
        go_ret2
        exact ⟨.inr ⟨by rw [HXX.out]; omega, rfl⟩, HB9.out⟩
end Go.Proofs.YtlfoigkpfooopaaGreatDoor

namespace Go.Proofs.YtlfoigkpfooopaaGreatDoor
open Go.RowKit Pl

set_option maxHeartbeats 1600000 in
set_option maxRecDepth 100000 in
theorem PRegs_some (w : World) (b off cap : Nat) (ps : List Ins) (hc : ProgAt w b off ps) (h0 : 0 < ps.length) (hp : PValid ps) :
    Calls Tryz.prog 10 #[.slice (some ⟨b, off, none⟩) ps.length cap] w fun e w' => e = .returned (.tuple #[.int .i64 (regs ps), .int .i64 0]) ∧ Below w.heap.size w w' := by
  have hl := hp.1
  have HV := Lib.hid (CV_arg w (.slice (some ⟨b, off, none⟩) ps.length cap) ps true (.inr ⟨h0, b, off, cap, rfl, hc⟩) (by omega) (fun x hx => by
    have := hp.2.1
    have := tree_le x hx
    omega) (by simp [hp]))
  have HR : Hid (∀ (k : Nat) (x : Ins), ps[k]? = some x → right x k ps.length = true) := Lib.hid hp.2.2
  generalize hnn : ps.length = n at *
  have HN := Lib.hid hnn; have HC := Lib.hid hc
  have hbw : b < w.heap.size := hc.1
  clear hc hp hnn h0
  go_enter Tryz.func10, Tryz.ntmps10
  go_wp2_with fail
  refine HV.out.mono ?_
  rintro e w1 ⟨rfl, h1⟩
  clear HV
  go_wp2
  go_loopw [4, 12] (fun v i wr => ∃ k : Nat, k ≤ n ∧ i = .int .i64 k ∧ (∃ r : Int, v = .int .i64 r ∧ 0 ≤ r ∧ r ≤ 100000 ∧ Hid (r + 1 = regsTo ps k)) ∧ Below w.heap.size w wr) (fun _ i _ => n - (intOf i).toNat)
  case atStart => exact ⟨0, Nat.zero_le _, rfl, ⟨0, rfl, by omega, by omega, Lib.hid rfl⟩, h1⟩
  case round =>
    clear h1
    obtain ⟨k, hk, rfl, ⟨r, rfl, hr0, hr1, hrr⟩, hb⟩ := hrel
    have hsz := hb.size
    by_cases hlt : k < n
    · obtain ⟨x, hx⟩ := get_at (ps := ps) (k := k) (by rw [HN.out]; exact hlt)
      have hk1 : (k : Int) < (n : Int) := by omega
      obtain ⟨a0, a1, a2, a3, a4⟩ := HC.out.2 k x hx
      have k0 := (hb.cell (p := ⟨b, off + k * 5, none⟩) hbw).trans a0
      have k1 := (hb.cell (p := ⟨b, off + k * 5 + 1, none⟩) hbw).trans a1
      have k2 := (hb.cell (p := ⟨b, off + k * 5 + 2, none⟩) hbw).trans a2
      have k3 := (hb.cell (p := ⟨b, off + k * 5 + 3, none⟩) hbw).trans a3
      have k4 := (hb.cell (p := ⟨b, off + k * 5 + 4, none⟩) hbw).trans a4
      obtain ⟨⟨xa0, xa1⟩, ⟨xb0, xb1⟩, ⟨xd0, xd1⟩, _⟩ := right_small (HR.out k x hx) (by omega) (by omega) (by omega)
      have HT := Lib.hid (regsTo_succ hx)
      have HB5 := Lib.hid (hb.alloc hsz (.cells #[.int .i64 x.op, .int .i64 x.a, .int .i64 x.b, .int .i64 x.c, .string (S x.tree)] 46))
      clear hx a0 a1 a2 a3 a4 hb
      by_cases h5 : x.op = 5
      · have HX : Hid (max r x.a + 1 = regsTo ps (k + 1)) := Lib.hid (by rw [HT.out, ← hrr.out]; unfold rstep; rw [if_pos h5]; omega)
        rw [h5] at k0 HB5
        clear h5
        go_wp2
        go_roundw
        case rel => exact ⟨k + 1, by omega, by go_num, ⟨_, rfl, by omega, by omega, HX⟩, HB5.out⟩
        case measure => simp [intOf]; omega
      · have h6 : (x.op != 5) = true := by rw [bne_iff_ne]; exact h5
        have HX : Hid (max (max (max r x.a) x.b) x.c + 1 = regsTo ps (k + 1)) := Lib.hid (by rw [HT.out, ← hrr.out]; unfold rstep; rw [if_neg h5]; omega)
        clear h5
        go_wp2
        go_roundw
        case rel => exact ⟨k + 1, by omega, by go_num, ⟨_, rfl, by rw [max_if, max_if]; omega, by rw [max_if, max_if]; omega, Lib.hid (by rw [max_if, max_if]; exact HX.out)⟩, HB5.out⟩
        case measure => simp [intOf]; omega
    · have HT := Lib.hid (regsTo_all (ps := ps) (k := k) (by rw [HN.out]; omega))
      have HU : Hid (r + 1 = regs ps) := Lib.hid (hrr.out.trans HT.out)
      have HB := Lib.hid hb
      go_wp2
      go_ret2
      exact ⟨by rw [← HU.out]; rfl, HB.out⟩

theorem pvalid_nil : PValid [] := ⟨by simp, by simp [trees], fun k x h => by simp at h⟩
set_option maxHeartbeats 1600000 in
set_option maxRecDepth 100000 in
theorem PRegs_none (w : World) (a : Option Addr) (cap : Nat) :
    Calls Tryz.prog 10 #[.slice a 0 cap] w fun e w' => e = .returned (.tuple #[.int .i64 1, .int .i64 0]) ∧ Below w.heap.size w w' := by
  go_enter Tryz.func10, Tryz.ntmps10
  go_wp2_with fail
  refine (CV_none _ a cap).mono ?_
  rintro e w1 ⟨rfl, h1⟩
  go_wp2
  go_loopw [4, 12] (fun v i wr => v = .int .i64 0 ∧ i = .int .i64 0 ∧ Below w.heap.size w wr) (fun _ _ _ => 0)
  case atStart => exact ⟨rfl, rfl, h1⟩
  case round =>
    clear h1
    obtain ⟨rfl, rfl, hb⟩ := hrel
    go_wp2
    go_ret2
    exact ⟨rfl, hb⟩
set_option maxHeartbeats 1600000 in
set_option maxRecDepth 100000 in
theorem PRegs_bad (w : World) (v : Value) (ps : List Ins) (h : ArgP w v ps) (hl : ps.length ≤ 281474976710656) (hz : ∀ x ∈ ps, x.tree.length ≤ 281474976710656) (hr : ¬ PValid ps) :
    Calls Tryz.prog 10 #[v] w fun e w' => e = .returned (.tuple #[.int .i64 0, .int .i64 1]) ∧ Below w.heap.size w w' := by
  have HV := Lib.hid (CV_arg w v ps false h hl hz (by simp [hr]))
  clear h hl hz hr
  go_enter Tryz.func10, Tryz.ntmps10
  go_wp2_with fail
  refine HV.out.mono ?_
  rintro e w1 ⟨rfl, h1⟩
  go_wp2
  go_ret2
  exact ⟨rfl, h1⟩
theorem PRegs_arg (w : World) (v : Value) (ps : List Ins) (h : ArgP w v ps) (hv : PValid ps) :
    Calls Tryz.prog 10 #[v] w fun e w' => e = .returned (.tuple #[.int .i64 (regs ps), .int .i64 0]) ∧ Below w.heap.size w w' := by
  rcases h with ⟨rfl, h⟩ | ⟨h0, b1, off, cap, rfl, hc⟩
  · obtain ⟨a, cap, rfl⟩ := empty_arg h
    exact PRegs_none w a cap
  · exact PRegs_some w b1 off cap ps hc h0 hv
set_option maxHeartbeats 1600000 in
set_option maxRecDepth 100000 in
theorem PCode_bad (w : World) (v : Value) (ps : List Ins) (h : ArgP w v ps) (hl : ps.length ≤ 281474976710656) (hz : ∀ x ∈ ps, x.tree.length ≤ 281474976710656) (hr : ¬ PValid ps) :
    Calls Tryz.prog 11 #[v] w fun e w' => e = .returned (.tuple #[.string (S []), .int .i64 1]) ∧ Below w.heap.size w w' := by
  have HV := Lib.hid (CV_arg w v ps false h hl hz (by simp [hr]))
  clear h hl hz hr
  go_enter Tryz.func11, Tryz.ntmps11
  go_wp2_with fail
  refine HV.out.mono ?_
  rintro e w1 ⟨rfl, h1⟩
  go_wp2_with fail
  go_ret2
  exact ⟨rfl, h1⟩
set_option maxHeartbeats 1600000 in
set_option maxRecDepth 100000 in
theorem PText_bad (w : World) (v : Value) (ps : List Ins) (h : ArgP w v ps) (hl : ps.length ≤ 281474976710656) (hz : ∀ x ∈ ps, x.tree.length ≤ 281474976710656) (hr : ¬ PValid ps) :
    Calls Tryz.prog 12 #[v] w fun e w' => e = .returned (.tuple #[.string (S []), .int .i64 1]) ∧ Below w.heap.size w w' := by
  have HV := Lib.hid (CV_arg w v ps false h hl hz (by simp [hr]))
  clear h hl hz hr
  go_enter Tryz.func12, Tryz.ntmps12
  go_wp2_with fail
  refine HV.out.mono ?_
  rintro e w1 ⟨rfl, h1⟩
  go_wp2_with fail
  go_ret2
  exact ⟨rfl, h1⟩
set_option maxHeartbeats 1600000 in
set_option maxRecDepth 100000 in
theorem PCode_none (w : World) (a : Option Addr) (cap : Nat) :
    Calls Tryz.prog 11 #[.slice a 0 cap] w (CRes [] w) := by
  obtain ⟨i0, hi, hz0, hz1, hz2⟩ := info_parts Tryz.infoStr
  go_enter Tryz.func11, Tryz.ntmps11
  go_wp2_with fail
  refine (CV_none _ a cap).mono ?_
  rintro e w1 ⟨rfl, h1⟩
  go_wp2_with fail
  refine (operations_good _).mono ?_
  rintro e w2 ⟨t, rfl, _, h2⟩
  have hb2 := h1.trans (h2.mono h1.size)
  go_wp2_with (at_make; refine wpList_make_full _ rfl _ _ 40 rfl w.heap.size 9 i0 (.string ⟨#[]⟩) 1 Tryz.underlying40 hi hz0 hz1 .i64 .i64 _ _ 0 rfl rfl rfl rfl (by rw [hz2]; omega) (by unfold maxLen; omega) hb2.size ?_)
  intro w3 hown hgrow
  have hb3 : Below w2.heap.size w2 w3 := (Below.refl _ _).grown hgrow (Nat.le_refl _) (by simp)
  have hb4 : Below w.heap.size w w3 := hb2.trans (hb3.mono hb2.size)
  clear hown hgrow hi hz0 hz1 hz2 hb3 hb2 h1 h2
  go_wp2
  go_loopw [19] (fun i wr => i = .int .i64 0 ∧ Below w.heap.size w wr) (fun _ _ => 0)
  case atStart => exact ⟨rfl, hb4⟩
  case round =>
    clear hb4
    obtain ⟨rfl, hb⟩ := hrel
    go_wp2_with fail
    refine (List_none _ _ 0).mono ?_
    rintro e w9 ⟨rfl, h9⟩
    go_wp2_with fail
    go_ret2
    exact ⟨.inl ⟨by decide, rfl⟩, hb.trans (h9.mono hb.size)⟩
set_option maxHeartbeats 1600000 in
set_option maxRecDepth 100000 in
theorem PText_none (w : World) (a : Option Addr) (cap : Nat) :
    Calls Tryz.prog 12 #[.slice a 0 cap] w (TRes [] w) := by
  obtain ⟨i0, hi, hz0, hz1, hz2⟩ := info_parts Tryz.infoStr
  go_enter Tryz.func12, Tryz.ntmps12
  go_wp2_with fail
  refine (CV_none _ a cap).mono ?_
  rintro e w1 ⟨rfl, h1⟩
  go_wp2_with fail
  refine (operations_good _).mono ?_
  rintro e w2 ⟨t, rfl, _, h2⟩
  have hb2 := h1.trans (h2.mono h1.size)
  go_wp2_with (at_make; refine wpList_make_full _ rfl _ _ 40 rfl w.heap.size 9 i0 (.string ⟨#[]⟩) 1 Tryz.underlying40 hi hz0 hz1 .i64 .i64 _ _ 0 rfl rfl rfl rfl (by rw [hz2]; omega) (by unfold maxLen; omega) hb2.size ?_)
  intro w3 hown hgrow
  have hb3 : Below w2.heap.size w2 w3 := (Below.refl _ _).grown hgrow (Nat.le_refl _) (by simp)
  have hb4 : Below w.heap.size w w3 := hb2.trans (hb3.mono hb2.size)
  clear hown hgrow hi hz0 hz1 hz2 hb3 hb2 h1 h2
  go_wp2
  go_loopw [18] (fun i wr => i = .int .i64 0 ∧ Below w.heap.size w wr) (fun _ _ => 0)
  case atStart => exact ⟨rfl, hb4⟩
  case round =>
    clear hb4
    obtain ⟨rfl, hb⟩ := hrel
    go_wp2_with fail
    refine (Tryz.strings_Join_none _ 0 _ _).mono ?_
    rintro e w9 ⟨rfl, rfl⟩
    go_wp2_with fail
    go_ret2
    exact ⟨.inl ⟨by decide, rfl⟩, hb⟩
theorem PCode_arg (w : World) (v : Value) (ps : List Ins) (h : ArgP w v ps) (hv : PValid ps) : Calls Tryz.prog 11 #[v] w (CRes ps w) := by
  rcases h with ⟨rfl, h⟩ | ⟨h0, b1, off, cap, rfl, hc⟩
  · obtain ⟨a, cap, rfl⟩ := empty_arg h
    exact PCode_none w a cap
  · exact PCode_some w b1 off cap ps hc h0 hv
theorem PText_arg (w : World) (v : Value) (ps : List Ins) (h : ArgP w v ps) (hv : PValid ps) (hE : Env w) : Calls Tryz.prog 12 #[v] w (TRes ps w) := by
  rcases h with ⟨rfl, h⟩ | ⟨h0, b1, off, cap, rfl, hc⟩
  · obtain ⟨a, cap, rfl⟩ := empty_arg h
    exact PText_none w a cap
  · exact PText_some w b1 off cap ps hc h0 hv hE
end Go.Proofs.YtlfoigkpfooopaaGreatDoor
