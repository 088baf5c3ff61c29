/- The reference's split. By an AI agent. -/
import Derived.Test.YtlfoigkpfooopaaGreatDoorText
namespace Go.Proofs.YtlfoigkpfooopaaGreatDoor
open Go.RowKit Pl

/-- what stands between blanks -/
def sp (cur : List UInt8) : List UInt8 → List (List UInt8)
  | [] => [cur]
  | c :: l => if c = 32 then cur :: sp [] l else sp (cur ++ [c]) l
def SpRel (L : List UInt8) (f i : Nat) (acc : List (List UInt8)) : Prop :=
  acc.length ≤ i ∧ ((i ≤ L.length ∧ f ≤ i ∧ acc ++ sp ((L.take i).drop f) (L.drop i) = sp [] L) ∨ (i = L.length + 1 ∧ acc = sp [] L))
theorem SpRel.start (L : List UInt8) : SpRel L 0 0 [] := ⟨Nat.le_refl _, .inl ⟨Nat.zero_le _, Nat.le_refl _, by simp⟩⟩
theorem SpRel.le {L : List UInt8} {f i : Nat} {acc : List (List UInt8)} (h : SpRel L f i acc) (hi : i ≤ L.length) : f ≤ i := by
  rcases h.2 with h | h
  · exact h.2.1
  · omega
theorem SpRel.more {L : List UInt8} {f i : Nat} {acc : List (List UInt8)} (h : SpRel L f i acc) (hi : i < L.length) (hc : L[i] ≠ 32) : SpRel L f (i + 1) acc := by
  rcases h.2 with ⟨_, h2, h3⟩ | h2
  · refine ⟨by have := h.1; omega, .inl ⟨by omega, by omega, ?_⟩⟩
    rw [← h3, List.drop_eq_getElem_cons hi]
    simp only [sp, if_neg hc]
    congr 2
    rw [List.take_succ_eq_append_getElem hi, List.drop_append_of_le_length (by rw [List.length_take]; omega)]
  · omega
theorem SpRel.blank {L : List UInt8} {f i : Nat} {acc : List (List UInt8)} (h : SpRel L f i acc) (hi : i < L.length) (hc : L[i] = 32) : SpRel L (i + 1) (i + 1) (acc ++ [(L.take i).drop f]) := by
  rcases h.2 with ⟨_, h2, h3⟩ | h2
  · refine ⟨by have := h.1; simp; omega, .inl ⟨by omega, by omega, ?_⟩⟩
    rw [← h3, List.drop_eq_getElem_cons hi]
    simp only [sp, if_pos hc, List.append_assoc]
    congr 2
    simp
  · omega
theorem SpRel.last {L : List UInt8} {f i : Nat} {acc : List (List UInt8)} (h : SpRel L f i acc) (hi : i = L.length) : SpRel L (i + 1) (i + 1) (acc ++ [(L.take i).drop f]) := by
  rcases h.2 with ⟨_, h2, h3⟩ | h2
  · refine ⟨by have := h.1; simp; omega, .inr ⟨by omega, ?_⟩⟩
    rw [← h3, List.drop_of_length_le (by omega : L.length ≤ i)]
    rfl
  · omega
theorem SpRel.done {L : List UInt8} {f i : Nat} {acc : List (List UInt8)} (h : SpRel L f i acc) (hi : L.length < i) : acc = sp [] L := by
  rcases h.2 with h2 | h2
  · omega
  · exact h2.2

set_option maxHeartbeats 3200000 in
set_option maxRecDepth 100000 in
theorem split_any (s : ByteArray) (w : World) (hs : s.size ≤ 100000000) :
    Calls Tryz.prog 75 #[.string s] w fun e w' => ∃ v, e = .returned v ∧ w'.ownsRow w.heap.size 9 1 v (sp [] s.data.toList).length (strsV (sp [] s.data.toList)) ∧ Below w.heap.size w w' := by
  obtain ⟨i0, hi, hz0, hz1, hz2⟩ := info_parts Tryz.infoStr
  have hl := len_eq s
  go_enter Tryz.func75, Tryz.ntmps75
  go_wp2
  go_loopw [3, 4, 5] (fun v f i wr => ∃ (k g : Nat) (acc : List (List UInt8)), k ≤ s.size + 1 ∧ i = .int .i64 k ∧ f = .int .i64 g ∧ Hid (SpRel s.data.toList g k acc) ∧ wr.ownsRow w.heap.size 9 1 v acc.length (strsV acc) ∧ Below w.heap.size w wr) (fun _ _ i _ => s.size + 1 - (intOf i).toNat)
  case atStart => exact ⟨0, 0, [], Nat.zero_le _, rfl, rfl, Lib.hid (SpRel.start _), World.ownsRow_nil _ _ _ _, Below.refl _ _⟩
  case round =>
    obtain ⟨k, g, acc, hk, rfl, rfl, hr, hown, hb⟩ := hrel
    have hsz := hb.size
    have hak := hr.out.1
    by_cases hlt : k < s.size
    · have hgk := hr.out.le (by omega)
      have h0 : (0 : Int) ≤ (k : Int) := by omega
      have h1 : (k : Int) < (s.size : Int) := by omega
      have hke : ((k : Int) == (s.size : Int)) = false := beq_eq_false_iff_ne.2 (by omega)
      have hkne : ¬ (k : Int) = (s.size : Int) := by omega
      by_cases hc : s[k] = 32
      · have HN := Lib.hid (hr.out.blank (by omega) (by rw [Array.getElem_toList]; exact hc))
        have k0 : (0 : Int) ≤ (g : Int) := by omega
        have k1 : (g : Int) ≤ (k : Int) := by omega
        have k2 : (k : Int) ≤ (s.size : Int) := by omega
        clear hkne
        have hE : S ((s.data.toList.take k).drop g) = s.extract g k := by symm; exact S_inj (ex_list s g k)
        have HE := Lib.hid hE
        clear hE
        go_wp2_with (at_builtin; refine wpList_append_own _ rfl _ _ 40 rfl w.heap.size 9 i0 (.string ⟨#[]⟩) 1 16 Tryz.underlying40 hi hz0 hz1 hz2 rfl (by decide) _ _ _ rfl (hown.alloc _) ⟨wr.heap.size, 0, none⟩ 1 1 [.string (s.extract g k)] rfl rfl ?c1 ?c2 ?c3 ?c4 ?c5 ?_)
        case c1 =>
          intro t u ht
          match t, ht with
          | 0, ht => simp at ht; subst ht; simp [Addr.add]
        case c2 => intro u hu; simp at hu; subst hu; rfl
        case c3 => unfold maxLen; omega
        case c4 => omega
        case c5 => simp; omega
        intro v' w3 hown' hgrow _
        have hb4 := app_below hb hsz hown hgrow
        have ho : w3.ownsRow w.heap.size 9 1 v' (acc ++ [(s.data.toList.take k).drop g]).length (strsV (acc ++ [(s.data.toList.take k).drop g])) := by
          rw [strsV_snoc, HE.out, List.length_append]; exact hown'
        have HO := Lib.hid ho
        clear ho hown' hgrow hown hb
        go_wp2
        go_roundw
        case rel => exact ⟨k + 1, k + 1, acc ++ [(s.data.toList.take k).drop g], by omega, by go_num, by go_num, HN, HO.out, hb4⟩
        case measure => simp [intOf]; omega
      · have HN := Lib.hid (hr.out.more (by omega) (by rw [Array.getElem_toList]; exact hc))
        have n1 : ((s[k].toNat : Int) == 32) = false := by rw [beq_eq_false_iff_ne]; intro e; exact hc (UInt8.toNat_inj.1 (by simpa using Int.ofNat.inj e))
        clear hc hkne
        go_wp2_with fail
        go_roundw
        case rel => exact ⟨k + 1, g, acc, by omega, by go_num, rfl, HN, hown, hb⟩
        case measure => simp [intOf]; omega
    · by_cases hke : k = s.size
      · have hgk := hr.out.le (by omega)
        have HN := Lib.hid (hr.out.last (by omega))
        have h2 : ((k : Int) == (s.size : Int)) = true := by rw [beq_iff_eq]; omega
        have h3 : (k : Int) ≤ (s.size : Int) := by omega
        have k0 : (0 : Int) ≤ (g : Int) := by omega
        have k1 : (g : Int) ≤ (k : Int) := by omega
        have hks : k ≤ s.size := by omega
        clear hke hl
        have hE : S ((s.data.toList.take k).drop g) = s.extract g k := by symm; exact S_inj (ex_list s g k)
        have HE := Lib.hid hE
        clear hE
        go_wp2_with (at_builtin; refine wpList_append_own _ rfl _ _ 40 rfl w.heap.size 9 i0 (.string ⟨#[]⟩) 1 16 Tryz.underlying40 hi hz0 hz1 hz2 rfl (by decide) _ _ _ rfl (hown.alloc _) ⟨wr.heap.size, 0, none⟩ 1 1 [.string (s.extract g k)] rfl rfl ?c1 ?c2 ?c3 ?c4 ?c5 ?_)
        case c1 =>
          intro t u ht
          match t, ht with
          | 0, ht => simp at ht; subst ht; simp [Addr.add]
        case c2 => intro u hu; simp at hu; subst hu; rfl
        case c3 => unfold maxLen; omega
        case c4 => omega
        case c5 => simp; omega
        intro v' w3 hown' hgrow _
        have hb4 := app_below hb hsz hown hgrow
        have ho : w3.ownsRow w.heap.size 9 1 v' (acc ++ [(s.data.toList.take k).drop g]).length (strsV (acc ++ [(s.data.toList.take k).drop g])) := by
          rw [strsV_snoc, HE.out, List.length_append]; exact hown'
        have HO := Lib.hid ho
        clear ho hown' hgrow hown hb
        go_wp2
        go_roundw
        case rel => exact ⟨k + 1, k + 1, acc ++ [(s.data.toList.take k).drop g], by omega, by go_num, by go_num, HN, HO.out, hb4⟩
        case measure => simp [intOf]; omega
      · have HD := Lib.hid (hr.out.done (by omega))
        have h3 : ¬ (k : Int) ≤ (s.size : Int) := by omega
        have HO : Hid (wr.ownsRow w.heap.size 9 1 u3 (sp [] s.data.toList).length (strsV (sp [] s.data.toList))) := Lib.hid (by rw [← HD.out]; exact hown)
        clear hke hown
        go_wp2_with fail
        go_ret
        exact ⟨_, rfl, HO.out, hb⟩
end Go.Proofs.YtlfoigkpfooopaaGreatDoor
