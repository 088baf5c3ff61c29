/- The name's place in the table (slices.IndexFunc with parse's function). By an AI agent. -/
import Derived.Test.YtlfoigkpfooopaaGreatDoorMDecode
namespace Go.Proofs.YtlfoigkpfooopaaGreatDoor
open Go.RowKit Pl

def nmIx (l : List UInt8) : Nat :=
  if nms.getD 0 [] = l then 0 else if nms.getD 1 [] = l then 1 else if nms.getD 2 [] = l then 2 else if nms.getD 3 [] = l then 3 else if nms.getD 4 [] = l then 4 else if nms.getD 5 [] = l then 5 else 6
theorem nmIx_at {l : List UInt8} {k : Nat} (h : ∀ i, i < k → nms.getD i [] ≠ l) (hk : k < 6) (he : nms.getD k [] = l) : nmIx l = k := by
  have hk6 : k = 0 ∨ k = 1 ∨ k = 2 ∨ k = 3 ∨ k = 4 ∨ k = 5 := by omega
  unfold nmIx
  rcases hk6 with rfl | rfl | rfl | rfl | rfl | rfl
  · rw [if_pos he]
  · rw [if_neg (h 0 (by omega)), if_pos he]
  · rw [if_neg (h 0 (by omega)), if_neg (h 1 (by omega)), if_pos he]
  · rw [if_neg (h 0 (by omega)), if_neg (h 1 (by omega)), if_neg (h 2 (by omega)), if_pos he]
  · rw [if_neg (h 0 (by omega)), if_neg (h 1 (by omega)), if_neg (h 2 (by omega)), if_neg (h 3 (by omega)), if_pos he]
  · rw [if_neg (h 0 (by omega)), if_neg (h 1 (by omega)), if_neg (h 2 (by omega)), if_neg (h 3 (by omega)), if_neg (h 4 (by omega)), if_pos he]
theorem nmIx_none {l : List UInt8} (h : ∀ i, i < 6 → nms.getD i [] ≠ l) : nmIx l = 6 := by
  unfold nmIx
  rw [if_neg (h 0 (by omega)), if_neg (h 1 (by omega)), if_neg (h 2 (by omega)), if_neg (h 3 (by omega)), if_neg (h 4 (by omega)), if_neg (h 5 (by omega))]
theorem nmIx_le (l : List UInt8) : nmIx l ≤ 6 := by unfold nmIx; repeat' split
                                                    all_goals omega
def nmInt (l : List UInt8) : Int := if nmIx l < 6 then (nmIx l : Int) else -1
theorem sameName (a l : List UInt8) (sl : Value) (B : Nat) (W : World) (hB : B < W.heap.size) (hc : W.cell? ⟨B, 0, none⟩ = some (.string (S l))) :
    Calls Tryz.prog 74 #[.agg #[.string (S a), sl], .pointer (some ⟨B, 0, none⟩)] W fun e w' => e = .returned (.bool (a == l)) ∧ Below W.heap.size W w' := by
  go_enter Tryz.func74, Tryz.ntmps74
  go_wp2
  go_ret
  exact ⟨rfl, (Below.refl _ _).alloc (Nat.le_refl _) _⟩

set_option maxHeartbeats 1600000 in
set_option maxRecDepth 100000 in
theorem indexName (t B : Nat) (l : List UInt8) (w : World) (hT : TabGood w t) (hB : B < w.heap.size) (hc : w.cell? ⟨B, 0, none⟩ = some (.string (S l))) :
    Calls Tryz.prog 73 #[.slice (some ⟨t, 0, none⟩) 6 6, .func (.func 74) #[] #[.pointer (some ⟨B, 0, none⟩)]] w fun e w' => e = .returned (.int .i64 (nmInt l)) ∧ Below w.heap.size w w' := by
  have HT := Lib.hid hT; have HC := Lib.hid hc
  have htl := hT.1
  clear hT hc
  go_enter Tryz.func73, Tryz.ntmps73
  go_wp2
  go_loopw [8] (fun i wr => ∃ k : Nat, k ≤ 6 ∧ i = .int .i64 k ∧ Below w.heap.size w wr ∧ Hid (∀ i, i < k → nms.getD i [] ≠ l)) (fun i _ => 6 - (intOf i).toNat)
  case atStart => exact ⟨0, by omega, rfl, Below.refl _ _, Lib.hid (fun i hi => absurd hi (Nat.not_lt_zero _))⟩
  case round =>
    obtain ⟨k, hk, rfl, hb, hn⟩ := hrel
    have hsz := hb.size
    by_cases hlt : k < 6
    · obtain ⟨bs, c0, c1, _⟩ := HT.out.2 k hlt
      have k0 := (hb.cell (p := ⟨t, k * 2, none⟩) htl).trans c0
      have k1 := (hb.cell (p := ⟨t, k * 2 + 1, none⟩) htl).trans c1
      have kB := (hb.cell (p := ⟨B, 0, none⟩) hB).trans HC.out
      have hk1 : (k : Int) < 6 := by omega
      obtain ⟨nk, hnk⟩ : ∃ nk, nms.getD k [] = nk := ⟨_, rfl⟩
      rw [hnk] at k0
      have HNK := Lib.hid hnk
      have HS := Lib.hid (fun (sl : Value) => sameName nk l sl B wr (by omega) kB)
      clear c0 c1 hnk
      by_cases he : nk = l
      · have hq : (nk == l) = true := by rw [he]; exact beq_self_eq_true l
        have HX : Hid (nmInt l = k) := Lib.hid (by unfold nmInt; rw [nmIx_at hn.out hlt (by rw [HNK.out]; exact he), if_pos hlt])
        clear he
        go_wp2_with fail
        refine (HS.out _).mono ?_
        rintro e w1 ⟨rfl, h1⟩
        have hb1 := hb.trans (h1.mono hsz)
        go_wp2
        go_ret
        rw [HX.out]
        exact ⟨rfl, hb1⟩
      · have hq : (nk == l) = false := beq_eq_false_iff_ne.2 he
        have HX : Hid (∀ i, i < k + 1 → nms.getD i [] ≠ l) := Lib.hid (fun i hi => by
          by_cases h : i = k
          · rw [h, HNK.out]; exact he
          · exact hn.out i (by omega))
        clear he
        go_wp2_with fail
        refine (HS.out _).mono ?_
        rintro e w1 ⟨rfl, h1⟩
        have hb1 := Lib.hid (hb.trans (h1.mono hsz))
        clear hb h1
        go_wp2
        go_roundw
        case rel => exact ⟨k + 1, by omega, by go_num, hb1.out, HX⟩
        case measure => simp [intOf]; omega
    · obtain rfl : k = 6 := by omega
      have HX : Hid (nmInt l = -1) := Lib.hid (by unfold nmInt; rw [nmIx_none hn.out, if_neg (by omega)])
      go_wp2
      go_ret
      rw [HX.out]
      exact ⟨rfl, hb⟩
end Go.Proofs.YtlfoigkpfooopaaGreatDoor

namespace Go.Proofs.YtlfoigkpfooopaaGreatDoor
open Go.RowKit Pl

theorem splitK_len (sep : List UInt8) : ∀ (k : Nat) (s : List UInt8), (Lib.splitK sep 0 k s).length ≤ k + 1
  | 0, _ => Nat.le_refl _
  | k + 1, s => by
    unfold Lib.splitK
    split
    · simp
    · have := splitK_len sep k (s.drop ((Lib.index s sep).toNat + sep.length))
      simp only [List.length_cons]; omega
theorem splitK_pos (sep : List UInt8) (k : Nat) (s : List UInt8) : 1 ≤ (Lib.splitK sep 0 k s).length := by
  cases k with
  | zero => simp [Lib.splitK]
  | succ k => unfold Lib.splitK; split <;> simp
theorem SplitN_l (s sep : List UInt8) (n : Nat) (w : World) (hs : s.length ≤ 4000000) (h1 : 1 ≤ sep.length) (hn : 1 ≤ n) (hn2 : n ≤ 1000000) (hE : Env w) :
    Calls Tryz.prog 45 #[.string (S s), .string (S sep), .int .i64 n] w fun e w' => ∃ v, e = .returned v ∧ w'.ownsRow w.heap.size 9 1 v (Lib.splitN s sep n).length (strsV (Lib.splitN s sep n)) ∧ Below w.heap.size w w' := by
  obtain ⟨m, hm⟩ := hE.ml
  refine (Tryz.strings_SplitN (S s) (S sep) n m w (by rw [S_size]; omega) hm (by rw [S_size]; exact h1) hn (by omega)).mono ?_
  rintro e w' ⟨rfl, rfl⟩
  have hd := Lib.splitB_data (S sep) 0 (min n ((S s).size + 1) - 1) (S s)
  have hq : Lib.splitN s sep n = (Lib.splitB (S sep) 0 (min n ((S s).size + 1) - 1) (S s)).map (·.data.toList) := by rw [hd, S_size]; rfl
  have hl : (Lib.splitN s sep n).length = (Lib.splitB (S sep) 0 (min n ((S s).size + 1) - 1) (S s)).length := by rw [hq]; simp
  have hle : (Lib.splitB (S sep) 0 (min n ((S s).size + 1) - 1) (S s)).length ≤ min n ((S s).size + 1) := by
    have := Lib.splitB_length_le (S sep) 0 (min n ((S s).size + 1) - 1) (S s)
    omega
  refine ⟨_, rfl, ⟨by rw [strsV_len, Nat.mul_one], .inr ⟨w.heap.size, _, _, by rw [hl], Nat.le_refl _, heap_alloc_new _ _, by rw [hl]; exact hle, by unfold maxLen; omega, by rw [Lib.cellsOf_size hle, Nat.mul_one], ?_⟩⟩, (Below.refl _ _).alloc (Nat.le_refl _) _⟩
  rw [Nat.mul_one, hl]
  unfold Lib.cellsOf
  rw [List.take_append_of_le_length (by simp), List.take_of_length_le (by simp), hq]
  simp only [strsV, List.map_map]
  rfl
theorem Cut_l (s sep : List UInt8) (w : World) (hs : s.length ≤ 4000000) (hE : Env w) :
    Calls Tryz.prog 72 #[.string (S s), .string (S sep)] w fun e w' => e = .returned (.tuple #[.string (S (Lib.cut s sep).1), .string (S (Lib.cut s sep).2.1), .bool (Lib.cut s sep).2.2]) ∧ Below w.heap.size w w' := by
  obtain ⟨m, hm⟩ := hE.ml
  refine (Tryz.strings_Cut (S s) (S sep) m w (by rw [S_size]; omega) hm).mono ?_
  rintro e w' ⟨rfl, n, rfl⟩
  exact ⟨rfl, below_drewN (Below.refl _ _) n⟩

/-! ### what is joined is split -/
theorem index_word {c : UInt8} {r w t : List UInt8} (h : c ∉ w) : Lib.index (w ++ (c :: r) ++ t) (c :: r) = w.length := by
  refine Lib.index_first (by simp) ?_ ?_
  · unfold Lib.occAt
    rw [List.append_assoc, List.drop_left]
    exact List.isPrefixOf_iff_prefix.2 (List.prefix_append _ _)
  · intro j hj
    unfold Lib.occAt
    have hne : c ≠ w[j] := fun e => h (by rw [e]; exact List.getElem_mem hj)
    have hq : (c == w[j]) = false := beq_eq_false_iff_ne.2 hne
    rw [List.append_assoc, List.drop_append_of_le_length (by omega), List.drop_eq_getElem_cons hj, List.cons_append, List.isPrefixOf, hq, Bool.false_and]
theorem index_alone {c : UInt8} {r w : List UInt8} (h : c ∉ w) : Lib.index w (c :: r) = -1 := by
  refine Lib.index_none fun j hj => ?_
  unfold Lib.occAt
  rcases Nat.lt_or_ge j w.length with h1 | h1
  · have hne : c ≠ w[j] := fun e => h (by rw [e]; exact List.getElem_mem h1)
    have hq : (c == w[j]) = false := beq_eq_false_iff_ne.2 hne
    rw [List.drop_eq_getElem_cons h1, List.isPrefixOf, hq, Bool.false_and]
  · rw [List.drop_eq_nil_of_le h1]; rfl
theorem join_two (x y : List UInt8) (r : List (List UInt8)) (sep : List UInt8) : Lib.join (x :: y :: r) sep = x ++ sep ++ Lib.join (y :: r) sep := by
  rw [Lib.join_cons, Lib.join_cons]; simp [Lib.joinTail]
theorem split_join {c : UInt8} {r : List UInt8} : ∀ (ws : List (List UInt8)) (k : Nat), ws ≠ [] → (∀ w ∈ ws, c ∉ w) → ws.length ≤ k + 1 → Lib.splitK (c :: r) 0 k (Lib.join ws (c :: r)) = ws
  | [], _, h, _, _ => absurd rfl h
  | [x], k, _, hc, _ => by
    rw [Lib.join_one]
    cases k with
    | zero => rfl
    | succ k => unfold Lib.splitK; rw [index_alone (hc x (by simp))]; rfl
  | x :: y :: ws, k, _, hc, hl => by
    obtain ⟨k, rfl⟩ : ∃ j, k = j + 1 := ⟨k - 1, by simp at hl; omega⟩
    rw [join_two]
    unfold Lib.splitK
    rw [index_word (hc x (by simp)), if_neg (by rw [beq_iff_eq]; omega), Int.toNat_natCast, Nat.add_zero]
    rw [show List.take x.length (x ++ c :: r ++ Lib.join (y :: ws) (c :: r)) = x by rw [List.append_assoc, List.take_left]]
    rw [show List.drop (x.length + (c :: r).length) (x ++ c :: r ++ Lib.join (y :: ws) (c :: r)) = Lib.join (y :: ws) (c :: r) by rw [← List.length_append, List.drop_left]]
    rw [split_join (y :: ws) k (by simp) (fun w hw => hc w (List.mem_cons_of_mem _ hw)) (by simp only [List.length_cons] at hl ⊢; omega)]
theorem join_split {sep : List UInt8} : ∀ (k : Nat) (s : List UInt8), Lib.join (Lib.splitK sep 0 k s) sep = s
  | 0, s => Lib.join_one s sep
  | k + 1, s => by
    unfold Lib.splitK
    split
    · exact Lib.join_one s sep
    · rename_i h
      rcases Lib.index_spec s sep with ⟨h1, _⟩ | ⟨i, h1, h2, h3, _⟩
      · exact absurd (by rw [h1]; rfl) h
      · rw [h1, Int.toNat_natCast, Nat.add_zero]
        have ih := join_split (sep := sep) k (s.drop (i + sep.length))
        cases hq : Lib.splitK sep 0 k (s.drop (i + sep.length)) with
        | nil => have := splitK_pos sep k (s.drop (i + sep.length)); rw [hq] at this; simp at this
        | cons y r =>
          rw [hq] at ih
          rw [join_two, ih]
          obtain ⟨t, ht⟩ := List.isPrefixOf_iff_prefix.1 h3
          have h4 : s.drop (i + sep.length) = t := by rw [← List.drop_drop, ← ht, List.drop_left]
          rw [h4, List.append_assoc, ht, List.take_append_drop]
theorem join_len_ge (ws : List (List UInt8)) (sep : List UInt8) (h : 1 ≤ sep.length) : ws.length ≤ (Lib.join ws sep).length + 1 := by
  induction ws with
  | nil => simp
  | cons x ws ih =>
    cases ws with
    | nil => simp
    | cons y r => rw [join_two]; simp only [List.length_cons, List.length_append] at ih ⊢; omega
/-- words without a blank, joined by blanks, are split again -/
theorem splitN_join {c : UInt8} {r : List UInt8} (ws : List (List UInt8)) (n : Nat) (h : ws ≠ []) (hc : ∀ w ∈ ws, c ∉ w) (hn : ws.length ≤ n) : Lib.splitN (Lib.join ws (c :: r)) (c :: r) n = ws := by
  unfold Lib.splitN
  have := join_len_ge ws (c :: r) (by simp)
  have h1 : 1 ≤ ws.length := by rcases ws with _ | ⟨x, ws⟩ <;> simp_all
  exact split_join ws _ h hc (by omega)
theorem join_splitN (s sep : List UInt8) (n : Nat) : Lib.join (Lib.splitN s sep n) sep = s := join_split _ s
theorem cut_hit {c : UInt8} {r w t : List UInt8} (h : c ∉ w) : Lib.cut (w ++ (c :: r) ++ t) (c :: r) = (w, t, true) := by
  unfold Lib.cut
  rw [index_word h, if_pos (by omega), Int.toNat_natCast, List.append_assoc, List.take_left, ← List.append_assoc, ← List.length_append, List.drop_left]
theorem cut_cases (s sep : List UInt8) : (Lib.cut s sep = (s, [], false)) ∨ ∃ a b, Lib.cut s sep = (a, b, true) ∧ s = a ++ sep ++ b := by
  unfold Lib.cut
  rcases Lib.index_spec s sep with ⟨h1, _⟩ | ⟨i, h1, h2, h3, _⟩
  · left; rw [h1, if_neg (by omega)]
  · right
    rw [h1, if_pos (by omega), Int.toNat_natCast]
    refine ⟨_, _, rfl, ?_⟩
    obtain ⟨t, ht⟩ := List.isPrefixOf_iff_prefix.1 h3
    have h4 : s.drop (i + sep.length) = t := by rw [← List.drop_drop, ← ht, List.drop_left]
    rw [h4, List.append_assoc, ht, List.take_append_drop]
end Go.Proofs.YtlfoigkpfooopaaGreatDoor
