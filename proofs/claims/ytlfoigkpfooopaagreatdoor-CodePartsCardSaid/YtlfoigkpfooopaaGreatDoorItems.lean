/- The contracts of Items (the reference), of the function inside Items and of Items (package tree). By an AI agent. -/
import Derived.Test.YtlfoigkpfooopaaGreatDoorLists
import Derived.Test.YtlfoigkpfooopaaGreatDoorMathD
import Derived.Deep.RegionLaw
import Derived.Deep.DrawnRows
namespace Go.Proofs.YtlfoigkpfooopaaGreatDoor
open Go.RowKit Pl

theorem strsV_snoc (a : List (List UInt8)) (x : List UInt8) : strsV (a ++ [x]) = strsV a ++ [.string (S x)] := by simp [strsV]
theorem strsV_app (a b : List (List UInt8)) : strsV (a ++ b) = strsV a ++ strsV b := by simp [strsV]

/-! the reference -/
theorem byte_at {s : ByteArray} {pos : Nat} (hp : pos < s.size) (hv : vld (s.data.toList.drop pos) = true) :
    (s.data.toList.drop pos = [48] ∧ s[pos] = 48) ∨ (s.data.toList.drop pos ≠ [48] ∧ s[pos] = 49) := by
  have hl : pos < s.data.toList.length := by rw [len_eq]; exact hp
  have hd : s.data.toList.drop pos = s[pos] :: s.data.toList.drop (pos + 1) := drop_cons hl
  by_cases h0 : s.data.toList.drop pos = [48]
  · rw [h0] at hd; exact Or.inl ⟨h0, by injection hd with h1 _; exact h1.symm⟩
  · obtain ⟨e, _, h2, _⟩ := vld_pair hv h0
    rw [hd] at h2
    injection h2 with h3 _
    exact Or.inr ⟨h0, h3⟩

set_option maxHeartbeats 1600000 in
set_option maxRecDepth 100000 in
theorem rItems_yes (s : ByteArray) (w : World) (hv : vld s.data.toList = true) :
    Calls Tryz.prog 41 #[.string s] w fun e w' => ∃ v, e = .returned v ∧ w'.ownsRow w.heap.size 9 1 v (itemsOf s.data.toList).length (strsV (itemsOf s.data.toList)) ∧ Below w.heap.size w w' := by
  obtain ⟨i0, hi, hz0, hz1, hz2⟩ := info_parts Tryz.infoStr
  have hs := vld_size hv
  have hv0 : vld (s.data.toList.drop 0) = true := by rw [List.drop_zero]; exact hv
  have HV := Lib.hid hv0; clear hv0
  go_enter Tryz.func41, Tryz.ntmps41
  go_wp2
  go_loopw [3, 4] (fun v i wr => ∃ (k : Nat) (acc : List (List UInt8)), k < s.size ∧ i = .int .i64 k ∧ Hid (vld (s.data.toList.drop k) = true) ∧ acc.length ≤ k ∧ Hid (acc ++ itemsOf (s.data.toList.drop k) = itemsOf s.data.toList) ∧ wr.ownsRow w.heap.size 9 1 v acc.length (strsV acc) ∧ Below w.heap.size w wr) (fun _ i _ => s.size - (intOf i).toNat)
  case atStart => exact ⟨0, [], by have := vld_pos hv; rw [len_eq] at this; omega, rfl, HV, by simp, Lib.hid (by rw [List.drop_zero]; rfl), World.ownsRow_nil _ _ _ _, Below.refl _ _⟩
  case round =>
    obtain ⟨k, acc, hk, rfl, hvk, hak, hacc, hown, hbw⟩ := hrel
    have hsz := hbw.size
    rcases byte_at hk hvk.out with ⟨hd0, hb0⟩ | ⟨hd0, hb1⟩
    · have ho : wr.ownsRow w.heap.size 9 1 u3 (itemsOf s.data.toList).length (strsV (itemsOf s.data.toList)) := by
        have := hacc.out
        rw [hd0, items_nil, List.append_nil] at this
        rw [← this]; exact hown
      have HO := Lib.hid ho
      clear ho hown hd0
      go_wp2
      go_ret
      exact ⟨_, rfl, HO.out, hbw⟩
    · obtain ⟨e, g1, _, _, _, g5, g6⟩ := vld_pair hvk.out hd0
      rw [List.length_drop, len_eq] at g5
      have hR : (s.data.toList.drop k).drop 1 = s.data.toList.drop (k + 1) := by rw [List.drop_drop]
      have hE : endAt s.data.toList (k + 1) = (k : Int) + 1 + (e : Int) := by unfold endAt; rw [← hR, g1]; simp
      have hc := fun W : World => End_any s (k + 1) W (by omega) (by omega)
      rw [hE] at hc
      have hc2 : ∀ W : World, Calls Tryz.prog 40 #[.string s, .int .i64 ((k : Int) + 1)] W fun x w' => x = .returned (.int .i64 ((k : Int) + 1 + (e : Int))) ∧ W = w' := hc
      have hH : S (hd (s.data.toList.drop k)) = s.extract (k + 1) (k + 1 + e) := by
        symm
        refine S_inj ?_
        rw [ex_list]
        unfold hd
        rw [if_neg hd0, sz_some g1, hR, List.drop_take]
        rw [show k + 1 + e - (k + 1) = e from by omega]
        simp
      have hT : tl (s.data.toList.drop k) = s.data.toList.drop (k + 1 + e) := by
        unfold tl
        rw [if_neg hd0, sz_some g1, hR, List.drop_drop]
        simp
      have hv2 := (vld_hd hvk.out).2
      have hit := items_cons hvk.out hd0
      rw [hT] at hv2 hit
      have ho : ∀ (w1 : World) (v : Value), w1.ownsRow w.heap.size 9 1 v (acc.length + 1) (strsV acc ++ [.string (s.extract (k + 1) (k + 1 + e))]) → w1.ownsRow w.heap.size 9 1 v (acc ++ [hd (s.data.toList.drop k)]).length (strsV (acc ++ [hd (s.data.toList.drop k)])) := by
        intro w1 v h
        rw [strsV_snoc, hH, List.length_append]
        exact h
      have ha2 := hacc.out
      rw [hit] at ha2
      have HA := Lib.hid ha2
      have HC := Lib.hid hc2; have HO := Lib.hid ho; have HV2 := Lib.hid hv2
      clear hc hc2 hE hR hH hT hv2 hit ho ha2 hd0 g1
      generalize hd (s.data.toList.drop k) = x at *
      have b1 : (k : Int) + 1 + (e : Int) ≤ (s.size : Int) := by omega
      have b0 : (0 : Int) ≤ (k : Int) + 1 := by omega
      have b2 : (k : Int) + 1 ≤ (k : Int) + 1 + (e : Int) := by omega
      have b3 : ((k : Int) + 1).toNat = k + 1 := by omega
      have b4 : ((k : Int) + 1 + (e : Int)).toNat = k + 1 + e := by omega
      go_wp2_with (first
        | (go_at_call 40; refine (HC.out _).mono ?_; rintro x1 w1 ⟨rfl, rfl⟩)
        | (at_builtin; refine wpList_append_own _ rfl _ _ 40 rfl w.heap.size 9 i0 (.string ⟨#[]⟩) 1 16 Tryz.underlying40 hi hz0 hz1 hz2 rfl (by decide) _ _ _ rfl (hown.alloc _) ⟨wr.heap.size, 0, none⟩ 1 1 [.string (s.extract (k + 1) (k + 1 + e))] rfl rfl ?c1 ?c2 ?c3 ?c4 ?c5 ?_))
      case c1 =>
        intro t u ht
        match t, ht with
        | 0, ht => simp at ht; subst ht; simp [Addr.add]
      case c2 => intro u hu; simp at hu; subst hu; rfl
      case c3 => unfold maxLen; omega
      case c4 => omega
      case c5 => simp; omega
      intro v' w1 hown' hgrow _
      have hb1' := app_below hbw hsz hown hgrow
      have HO2 := Lib.hid (HO.out _ _ hown')
      clear hown' hgrow hown hbw
      go_wp2
      go_roundw
      case rel => exact ⟨k + 1 + e, acc ++ [x], by omega, by go_num, HV2, by simp; omega, Lib.hid (by rw [List.append_assoc]; exact HA.out), HO2.out, hb1'⟩
      case measure => simp [intOf]; omega

theorem own_keep {w w1 : World} {base n : Nat} {e : TypeId} {size : Nat} {v : Value} {xs : List Value} (h : w.ownsRow base e size v n xs) (hb : Below w.heap.size w w1) : w1.ownsRow base e size v n xs :=
  h.kept (row := none) ⟨hb.os, hb.tape, hb.output, hb.size, fun k hk _ => hb.block k hk⟩ (by cases v.ownBlock <;> simp)

theorem far_cell {w w3 : World} {B : Nat} {v : Value} {ob : Option Nat} {o : Obj} (hg : (w.alloc o).grownBy w3 ob) (hB : B < w.heap.size) (hne : some B ≠ ob) (h1 : w.cell? ⟨B, 0, none⟩ = some v) : w3.cell? ⟨B, 0, none⟩ = some v := by
  rw [hg.cell_far _ (by simp; omega) hne, World.cell?_alloc_past _ _ _ hB]; exact h1
theorem far_frozen {w w3 : World} {B : Nat} {b : Bool} {ob : Option Nat} {o : Obj} (hg : (w.alloc o).grownBy w3 ob) (hB : B < w.heap.size) (hne : some B ≠ ob) (h1 : w.frozen? ⟨B, 0, none⟩ = b) : w3.frozen? ⟨B, 0, none⟩ = b := by
  rw [hg.frozen_far _ (by simp; omega) hne, World.frozen?_of_block (w := w) (Below.heap_alloc w o B hB)]; exact h1

/-! the function inside Items: what it captured lies in the blocks B (the list) and B + 1 (the function itself) -/
def CSt (B : Nat) (w : World) (acc : List (List UInt8)) : Prop :=
  ∃ v, w.cell? ⟨B, 0, none⟩ = some v ∧ w.frozen? ⟨B, 0, none⟩ = false ∧ w.ownsRow (B + 2) 9 1 v acc.length (strsV acc) ∧
    w.cell? ⟨B + 1, 0, none⟩ = some (.func (.func 49) #[] #[.pointer (some ⟨B, 0, none⟩), .pointer (some ⟨B + 1, 0, none⟩)]) ∧ B + 2 ≤ w.heap.size

theorem collect_close {B : Nat} {w w1 w2 w3 : World} {v : Value} {acc : List (List UInt8)} {x : List UInt8} {g cap : Nat} {o : Obj}
    (c3 : w.ownsRow (B + 2) 9 1 v acc.length (strsV acc))
    (c4 : w.cell? ⟨B + 1, 0, none⟩ = some (.func (.func 49) #[] #[.pointer (some ⟨B, 0, none⟩), .pointer (some ⟨B + 1, 0, none⟩)])) (c5 : B + 2 ≤ w.heap.size)
    (hb1 : Below w.heap.size w w1) (hb2 : Below w1.heap.size w1 w2) (hg : (w2.alloc o).grownBy w3 v.ownBlock)
    (e1 : w3.cell? ⟨B, 0, none⟩ = some v) (e2 : w3.frozen? ⟨B, 0, none⟩ = false)
    (hown : w3.ownsRow (B + 2) 9 1 (.slice (some ⟨g, 0, none⟩) (acc.length + 1) cap) (acc.length + 1) (strsV acc ++ [.string (S x)])) :
    CSt B (w3.setCell ⟨B, 0, none⟩ (.slice (some ⟨g, 0, none⟩) (acc.length + 1) cap)) (acc ++ [x]) ∧ Below B w (w3.setCell ⟨B, 0, none⟩ (.slice (some ⟨g, 0, none⟩) (acc.length + 1) cap)) := by
  have s1 := hb1.size
  have s2 := hb2.size
  have s3 := hg.size
  simp only [World.alloc, Array.size_push] at s3
  have hr : ∀ k, v.ownBlock = some k → B + 2 ≤ k := fun k h => (c3.lt k h).1
  have hne : some (B + 1) ≠ v.ownBlock := fun h => by have := hr _ h.symm; omega
  have f4 : w3.cell? ⟨B + 1, 0, none⟩ = some (.func (.func 49) #[] #[.pointer (some ⟨B, 0, none⟩), .pointer (some ⟨B + 1, 0, none⟩)]) := by
    rw [hg.cell_far ⟨B + 1, 0, none⟩ (by simp; omega) hne, World.cell?_alloc_past _ _ _ (by show B + 1 < _; omega), hb2.cell (p := ⟨B + 1, 0, none⟩) (by show B + 1 < _; omega), hb1.cell (p := ⟨B + 1, 0, none⟩) (by show B + 1 < _; omega)]
    exact c4
  have hb3 : Below B w w3 := (((hb1.mono (by omega)).trans (hb2.mono (by omega))).alloc (by omega) o).grown hg (by simp; omega) (fun k h => by have := hr k h; omega)
  refine ⟨⟨_, World.cell?_setCell_same _ _ _ e1, ?_, ?_, ?_, ?_⟩, hb3.setCell (Nat.le_refl _) _⟩
  · rw [World.frozen?_setCell]; exact e2
  · rw [strsV_snoc, List.length_append]
    exact ownsRow_setCell_below hown (by simp) _
  · rw [World.cell?_setCell_other _ _ _ _ (by simp)]; exact f4
  · simp; omega

set_option maxHeartbeats 1600000 in
set_option maxRecDepth 100000 in
theorem collect_end (B most : Nat) (acc : List (List UInt8)) (w : World) (hc : CSt B w acc) :
    Calls Tryz.prog 49 #[.string (S [48]), .int .i64 most, .pointer (some ⟨B, 0, none⟩), .pointer (some ⟨B + 1, 0, none⟩)] w fun e w' => e = .returned (.string (S (after most [48]))) ∧ CSt B w' (acc ++ firsts most [48]) ∧ Below B w w' := by
  rw [after_nil, firsts_nil, List.append_nil]
  have HC := Lib.hid hc; clear hc
  go_enter Tryz.func49, Tryz.ntmps49
  go_wp2_with fail
  go_ret
  exact ⟨rfl, HC.out, Below.refl _ _⟩

set_option maxHeartbeats 3200000 in
set_option maxRecDepth 100000 in
theorem collect_one (B : Nat) (rest : List UInt8) (acc : List (List UInt8)) (w : World) (hv : vld rest = true) (h0 : rest ≠ [48]) (ha : acc.length + 1 ≤ 2000000) (hc : CSt B w acc) :
    Calls Tryz.prog 49 #[.string (S rest), .int .i64 1, .pointer (some ⟨B, 0, none⟩), .pointer (some ⟨B + 1, 0, none⟩)] w fun e w' => e = .returned (.string (S (after 1 rest))) ∧ CSt B w' (acc ++ firsts 1 rest) ∧ Below B w w' := by
  obtain ⟨i0, hi, hz0, hz1, hz2⟩ := info_parts Tryz.infoStr
  rw [after_one h0, firsts_one h0]
  have hp : ∀ W : World, Calls Tryz.prog 50 #[.string (S rest)] W fun x w' => x = .returned (.tuple #[.string (S (hd rest)), .string (S (tl rest))]) ∧ Below W.heap.size W w' := fun W => parts_any (S rest) W hv
  have hl := (hd_le hv).1
  have hne : (rest == [48]) = false := beq_eq_false_iff_ne.2 h0
  obtain ⟨v, c1, c2, c3, c4, c5⟩ := hc
  have HP := Lib.hid hp; clear hp hv h0
  generalize hd rest = x at *
  generalize tl rest = y at *
  go_enter Tryz.func49, Tryz.ntmps49
  go_wp2_with fail
  refine (HP.out _).mono ?_
  rintro e w1 ⟨rfl, hb1⟩
  have hB : B < w.heap.size := by omega
  have d1 : w1.cell? ⟨B, 0, none⟩ = some v := by rw [hb1.cell (p := ⟨B, 0, none⟩) hB]; exact c1
  have d2 : w1.frozen? ⟨B, 0, none⟩ = false := by rw [hb1.frozen (p := ⟨B, 0, none⟩) hB]; exact c2
  have own1 := own_keep c3 hb1
  have hne : ∀ g, v.ownBlock = some g → some B ≠ some g := fun g h e => by have := (c3.lt g h).1; have := Option.some.inj e; omega
  have hB1 : B < w1.heap.size := Nat.lt_of_lt_of_le hB hb1.size
  have hcl : Calls Tryz.prog 51 #[.string (S x)] w1.drew fun e w' => e = .returned (.string (S x)) ∧ Below w1.heap.size w1 w' ∧ w'.cell? ⟨B, 0, none⟩ = some v ∧ w'.frozen? ⟨B, 0, none⟩ = false ∧ w'.ownsRow (B + 2) 9 1 v acc.length (strsV acc) ∧ B + 2 ≤ w'.heap.size := by
    refine (Clone_any (S x) w1.drew (by rw [S_size]; omega)).mono fun e w' ⟨h1, h2⟩ => ?_
    have h3 : Below w1.heap.size w1 w' := ((Below.refl _ w1).drew).trans h2
    exact ⟨h1, h3, (h3.cell (p := ⟨B, 0, none⟩) hB1).trans d1, (h3.frozen (p := ⟨B, 0, none⟩) hB1).trans d2, own_keep own1 h3, Nat.le_trans (Nat.le_trans c5 hb1.size) h3.size⟩
  have HCL := Lib.hid hcl; have HNE := Lib.hid hne
  have HC3 := Lib.hid c3; have HC4 := Lib.hid c4; have HC5 := Lib.hid c5
  clear hcl hne c1 c2 c3 c4 c5 own1
  go_wp2_with fail
  go_region_law (first
    | (go_simp; go_at_call 51; refine HCL.out.mono ?_; rintro e w2 ⟨rfl, hb2, k1, k2, k3, k4⟩; have k6 : (w2.alloc (.cells #[.string (S x)] 9)).cell? ⟨B, 0, none⟩ = some v := ((World.cell?_alloc_past _ _ _ (by exact Nat.lt_of_lt_of_le (Nat.lt_succ_of_lt (Nat.lt_succ_self B)) k4)).trans k1))
    | (refine step_append_lies _ (by rfl) _ _ _ (by rfl) (B + 2) 9 i0 _ 1 16 Tryz.underlying40 hi hz0 hz1 hz2 rfl (by omega) v acc.length (strsV acc) (by rfl) (k3.alloc _) ⟨w2.heap.size, 0, none⟩ 1 1 [.string (S x)] (by rfl) (by rfl) (World.news_of_block (cs := #[.string (S x)]) (t := 9) (fr := (0, 0)) (heap_alloc_new w2 _)) (by simp [Value.oneCell']) (by omega) (by unfold maxLen; omega) (by omega) (by simp; omega) (w2.heap.size + 1) (by simp) ?_; intro g cap w3 hown3 hgrow3 hat hlt; have e1 := far_cell hgrow3 (by omega) (fun h => HNE.out _ h.symm rfl) k1; have e2 := far_frozen hgrow3 (by omega) (fun h => HNE.out _ h.symm rfl) k2))
  all_goals
    have hfin := collect_close HC3.out HC4.out HC5.out hb1 hb2 hgrow3 e1 e2 hown3
    have HF := Lib.hid hfin
    clear hfin hgrow3 e1 e2 hown3 k1 k2 k3 k6 hat hlt
    go_wp2
    go_ret
    exact ⟨rfl, HF.out⟩

theorem CSt.drew {B : Nat} {w : World} {acc : List (List UInt8)} (h : CSt B w acc) : CSt B w.drew acc := h
set_option maxHeartbeats 3200000 in
set_option maxRecDepth 100000 in
theorem collect_any (B n : Nat) : ∀ (most : Nat) (rest : List UInt8) (acc : List (List UInt8)) (w : World), most ≤ n → 1 ≤ most → vld rest = true → acc.length + most ≤ 2000000 → CSt B w acc →
    Calls Tryz.prog 49 #[.string (S rest), .int .i64 most, .pointer (some ⟨B, 0, none⟩), .pointer (some ⟨B + 1, 0, none⟩)] w fun e w' => e = .returned (.string (S (after most rest))) ∧ CSt B w' (acc ++ firsts most rest) ∧ Below B w w' := by
  induction n with
  | zero => intro most rest acc w h1 h2; omega
  | succ n ih =>
    intro most rest acc w h1 h2 hv ha hc
    by_cases h0 : rest = [48]
    · subst h0; exact collect_end B most acc w hc
    · by_cases hm : most = 1
      · subst hm; exact collect_one B rest acc w hv h0 ha hc
      · have hne : (rest == [48]) = false := beq_eq_false_iff_ne.2 h0
        have hlen := items_len (most / 2) (l := rest)
        have hcellOf : ∀ (W : World) (ac : List (List UInt8)), CSt B W ac → W.cell? ⟨B + 1, 0, none⟩ = some (.func (.func 49) #[] #[.pointer (some ⟨B, 0, none⟩), .pointer (some ⟨B + 1, 0, none⟩)]) := fun W ac h => by obtain ⟨_, _, _, _, h, _⟩ := h; exact h
        have hd1 : (most : Int) - (most : Int) / 2 = ((most - most / 2 : Nat) : Int) := by omega
        have hd2 : (most : Int) / 2 = ((most / 2 : Nat) : Int) := by omega
        have hI1 : Calls Tryz.prog 49 #[.string (S rest), .int .i64 ((most : Int) / 2), .pointer (some ⟨B, 0, none⟩), .pointer (some ⟨B + 1, 0, none⟩)] w.drew fun e w' => e = .returned (.string (S (after (most / 2) rest))) ∧ CSt B w' (acc ++ firsts (most / 2) rest) ∧ Below B w w' ∧ w'.cell? ⟨B + 1, 0, none⟩ = some (.func (.func 49) #[] #[.pointer (some ⟨B, 0, none⟩), .pointer (some ⟨B + 1, 0, none⟩)]) := by
          rw [hd2]
          exact (ih (most / 2) rest acc w.drew (by omega) (by omega) hv (by omega) hc).mono fun e w' ⟨g1, g2, g3⟩ => ⟨g1, g2, ((Below.refl _ w).drew).trans g3, hcellOf _ _ g2⟩
        have hI2 : ∀ W : World, CSt B W (acc ++ firsts (most / 2) rest) → Calls Tryz.prog 49 #[.string (S (after (most / 2) rest)), .int .i64 ((most : Int) - (most : Int) / 2), .pointer (some ⟨B, 0, none⟩), .pointer (some ⟨B + 1, 0, none⟩)] W fun e w' => e = .returned (.string (S (after most rest))) ∧ CSt B w' (acc ++ firsts most rest) ∧ Below B W w' ∧ w'.cell? ⟨B + 1, 0, none⟩ = some (.func (.func 49) #[] #[.pointer (some ⟨B, 0, none⟩), .pointer (some ⟨B + 1, 0, none⟩)]) := by
          intro W h
          rw [hd1]
          have := ih (most - most / 2) (after (most / 2) rest) (acc ++ firsts (most / 2) rest) W (by omega) (by omega) (vld_after _ hv) (by rw [List.length_append]; omega) h
          rw [← after_add, List.append_assoc, ← firsts_add, show most / 2 + (most - most / 2) = most from by omega] at this
          exact this.mono fun e w' ⟨g1, g2, g3⟩ => ⟨g1, g2, g3, hcellOf _ _ g2⟩
        have hcell := hcellOf _ _ hc
        have hm1 : ((most : Int) == 1) = false := beq_eq_false_iff_ne.2 (by omega)
        have b0 : most ≤ 2000000 := by omega
        have hw : IntKind.i64.wrap ((most : Int) - (most : Int) / 2) = (most : Int) - (most : Int) / 2 := IntWalk.i64_in _ (by omega)
        generalize after (most / 2) rest = mid at *
        generalize firsts (most / 2) rest = fm at *
        have H1 := Lib.hid hI1; have H2 := Lib.hid hI2
        clear ih hI1 hI2 hv ha hc h0 hm hlen hd1 hd2 hcellOf h1
        go_enter Tryz.func49, Tryz.ntmps49
        go_wp2_with fail
        go_region_held3 (fun w' => w'.cell? ⟨B + 1, 0, none⟩ = some (.func (.func 49) #[] #[.pointer (some ⟨B, 0, none⟩), .pointer (some ⟨B + 1, 0, none⟩)])) (first | assumption | go_keep)
          (first
            | (go_at_call 49; (with_reducible refine H1.out.mono ?_); rintro e w2 ⟨rfl, hs2, hb2, hk2⟩)
            | (go_at_call 49; refine (H2.out _ hs2).mono ?_; rintro e w3 ⟨rfl, hs3, hb3, hk3⟩))
        go_wp2
        go_ret
        exact ⟨rfl, hs3, hb2.trans hb3⟩

end Go.Proofs.YtlfoigkpfooopaaGreatDoor
