/- The reference's split. By an AI agent. -/
import Derived.Test.YtmhoacnbmbhcjaaGreatDoorTxt
namespace Go.Proofs.YtmhoacnbmbhcjaaGreatDoor
open Go.RowKit Pl

/-- what stands between blanks -/
def sp (cur : List UInt8) : List UInt8 → List (List UInt8)
  | [] => [cur]
  | c :: l => if c = 32 then cur :: sp [] l else sp (cur ++ [c]) l
def SpRel (L : List UInt8) (f i : Nat) (acc : List (List UInt8)) : Prop :=
  acc.length ≤ i ∧ ((i ≤ L.length ∧ f ≤ i ∧ acc ++ sp ((L.take i).drop f) (L.drop i) = sp [] L) ∨ (i = L.length + 1 ∧ acc = sp [] L))
theorem SpRel.start (L : List UInt8) : SpRel L 0 0 [] := ⟨Nat.le_refl _, .inl ⟨Nat.zero_le _, Nat.le_refl _, by simp⟩⟩
theorem SpRel.le {L : List UInt8} {f i : Nat} {acc : List (List UInt8)} (h : SpRel L f i acc) (hi : i ≤ L.length) : f ≤ i := by
  rcases h.2 with h | h
  · exact h.2.1
  · omega
theorem SpRel.more {L : List UInt8} {f i : Nat} {acc : List (List UInt8)} (h : SpRel L f i acc) (hi : i < L.length) (hc : L[i] ≠ 32) : SpRel L f (i + 1) acc := by
  rcases h.2 with ⟨_, h2, h3⟩ | h2
  · refine ⟨by have := h.1; omega, .inl ⟨by omega, by omega, ?_⟩⟩
    rw [← h3, List.drop_eq_getElem_cons hi]
    simp only [sp, if_neg hc]
    congr 2
    rw [List.take_succ_eq_append_getElem hi, List.drop_append_of_le_length (by rw [List.length_take]; omega)]
  · omega
theorem SpRel.blank {L : List UInt8} {f i : Nat} {acc : List (List UInt8)} (h : SpRel L f i acc) (hi : i < L.length) (hc : L[i] = 32) : SpRel L (i + 1) (i + 1) (acc ++ [(L.take i).drop f]) := by
  rcases h.2 with ⟨_, h2, h3⟩ | h2
  · refine ⟨by have := h.1; simp; omega, .inl ⟨by omega, by omega, ?_⟩⟩
    rw [← h3, List.drop_eq_getElem_cons hi]
    simp only [sp, if_pos hc, List.append_assoc]
    congr 2
    simp
  · omega
theorem SpRel.last {L : List UInt8} {f i : Nat} {acc : List (List UInt8)} (h : SpRel L f i acc) (hi : i = L.length) : SpRel L (i + 1) (i + 1) (acc ++ [(L.take i).drop f]) := by
  rcases h.2 with ⟨_, h2, h3⟩ | h2
  · refine ⟨by have := h.1; simp; omega, .inr ⟨by omega, ?_⟩⟩
    rw [← h3, List.drop_of_length_le (by omega : L.length ≤ i)]
    rfl
  · omega
theorem SpRel.done {L : List UInt8} {f i : Nat} {acc : List (List UInt8)} (h : SpRel L f i acc) (hi : L.length < i) : acc = sp [] L := by
  rcases h.2 with h2 | h2
  · omega
  · exact h2.2

set_option maxHeartbeats 3200000 in
set_option maxRecDepth 100000 in
theorem split_any (s : ByteArray) (w : World) (hs : s.size ≤ 100000000) :
    Calls Tryz.prog 164 #[.string s] w fun e w' => ∃ v, e = .returned v ∧ w'.ownsRow w.heap.size 9 1 v (sp [] s.data.toList).length (strsV (sp [] s.data.toList)) ∧ Below w.heap.size w w' := by
  obtain ⟨i0, hi, hz0, hz1, hz2⟩ := info_parts Tryz.infoStr
  have hl := len_eq s
  go_enter Tryz.func164, Tryz.ntmps164
  go_wp2
  go_loopw [3, 4, 5] (fun v f i wr => ∃ (k g : Nat) (acc : List (List UInt8)), k ≤ s.size + 1 ∧ i = .int .i64 k ∧ f = .int .i64 g ∧ Hid (SpRel s.data.toList g k acc) ∧ wr.ownsRow w.heap.size 9 1 v acc.length (strsV acc) ∧ Below w.heap.size w wr) (fun _ _ i _ => s.size + 1 - (intOf i).toNat)
  case atStart => exact ⟨0, 0, [], Nat.zero_le _, rfl, rfl, Lib.hid (SpRel.start _), World.ownsRow_nil _ _ _ _, Below.refl _ _⟩
  case round =>
    obtain ⟨k, g, acc, hk, rfl, rfl, hr, hown, hb⟩ := hrel
    have hsz := hb.size
    have hak := hr.out.1
    by_cases hlt : k < s.size
    · have hgk := hr.out.le (by omega)
      have h0 : (0 : Int) ≤ (k : Int) := by omega
      have h1 : (k : Int) < (s.size : Int) := by omega
      have hke : ((k : Int) == (s.size : Int)) = false := beq_eq_false_iff_ne.2 (by omega)
      have hkne : ¬ (k : Int) = (s.size : Int) := by omega
      by_cases hc : s[k] = 32
      · have HN := Lib.hid (hr.out.blank (by omega) (by rw [Array.getElem_toList]; exact hc))
        have k0 : (0 : Int) ≤ (g : Int) := by omega
        have k1 : (g : Int) ≤ (k : Int) := by omega
        have k2 : (k : Int) ≤ (s.size : Int) := by omega
        clear hkne
        have hE : S ((s.data.toList.take k).drop g) = s.extract g k := by symm; exact S_inj (ex_list s g k)
        have HE := Lib.hid hE
        clear hE
        go_wp2_with (at_builtin; refine wpList_append_own _ rfl _ _ 100 rfl w.heap.size 9 i0 (.string ⟨#[]⟩) 1 16 Tryz.underlying100 hi hz0 hz1 hz2 rfl (by decide) _ _ _ rfl (hown.alloc _) ⟨wr.heap.size, 0, none⟩ 1 1 [.string (s.extract g k)] rfl rfl ?c1 ?c2 ?c3 ?c4 ?c5 ?_)
        case c1 =>
          intro t u ht
          match t, ht with
          | 0, ht => simp at ht; subst ht; simp [Addr.add]
        case c2 => intro u hu; simp at hu; subst hu; rfl
        case c3 => unfold maxLen; omega
        case c4 => omega
        case c5 => simp; omega
        intro v' w3 hown' hgrow _
        have hb4 := app_below hb hsz hown hgrow
        have ho : w3.ownsRow w.heap.size 9 1 v' (acc ++ [(s.data.toList.take k).drop g]).length (strsV (acc ++ [(s.data.toList.take k).drop g])) := by
          rw [strsV_snoc, HE.out, List.length_append]; exact hown'
        have HO := Lib.hid ho
        clear ho hown' hgrow hown hb
        go_wp2
        go_roundw
        case rel => exact ⟨k + 1, k + 1, acc ++ [(s.data.toList.take k).drop g], by omega, by go_num, by go_num, HN, HO.out, hb4⟩
        case measure => simp [intOf]; omega
      · have HN := Lib.hid (hr.out.more (by omega) (by rw [Array.getElem_toList]; exact hc))
        have n1 : ((s[k].toNat : Int) == 32) = false := by rw [beq_eq_false_iff_ne]; intro e; exact hc (UInt8.toNat_inj.1 (by simpa using Int.ofNat.inj e))
        clear hc hkne
        go_wp2_with fail
        go_roundw
        case rel => exact ⟨k + 1, g, acc, by omega, by go_num, rfl, HN, hown, hb⟩
        case measure => simp [intOf]; omega
    · by_cases hke : k = s.size
      · have hgk := hr.out.le (by omega)
        have HN := Lib.hid (hr.out.last (by omega))
        have h2 : ((k : Int) == (s.size : Int)) = true := by rw [beq_iff_eq]; omega
        have h3 : (k : Int) ≤ (s.size : Int) := by omega
        have k0 : (0 : Int) ≤ (g : Int) := by omega
        have k1 : (g : Int) ≤ (k : Int) := by omega
        have hks : k ≤ s.size := by omega
        clear hke hl
        have hE : S ((s.data.toList.take k).drop g) = s.extract g k := by symm; exact S_inj (ex_list s g k)
        have HE := Lib.hid hE
        clear hE
        go_wp2_with (at_builtin; refine wpList_append_own _ rfl _ _ 100 rfl w.heap.size 9 i0 (.string ⟨#[]⟩) 1 16 Tryz.underlying100 hi hz0 hz1 hz2 rfl (by decide) _ _ _ rfl (hown.alloc _) ⟨wr.heap.size, 0, none⟩ 1 1 [.string (s.extract g k)] rfl rfl ?c1 ?c2 ?c3 ?c4 ?c5 ?_)
        case c1 =>
          intro t u ht
          match t, ht with
          | 0, ht => simp at ht; subst ht; simp [Addr.add]
        case c2 => intro u hu; simp at hu; subst hu; rfl
        case c3 => unfold maxLen; omega
        case c4 => omega
        case c5 => simp; omega
        intro v' w3 hown' hgrow _
        have hb4 := app_below hb hsz hown hgrow
        have ho : w3.ownsRow w.heap.size 9 1 v' (acc ++ [(s.data.toList.take k).drop g]).length (strsV (acc ++ [(s.data.toList.take k).drop g])) := by
          rw [strsV_snoc, HE.out, List.length_append]; exact hown'
        have HO := Lib.hid ho
        clear ho hown' hgrow hown hb
        go_wp2
        go_roundw
        case rel => exact ⟨k + 1, k + 1, acc ++ [(s.data.toList.take k).drop g], by omega, by go_num, by go_num, HN, HO.out, hb4⟩
        case measure => simp [intOf]; omega
      · have HD := Lib.hid (hr.out.done (by omega))
        have h3 : ¬ (k : Int) ≤ (s.size : Int) := by omega
        have HO : Hid (wr.ownsRow w.heap.size 9 1 u3 (sp [] s.data.toList).length (strsV (sp [] s.data.toList))) := Lib.hid (by rw [← HD.out]; exact hown)
        clear hke hown
        go_wp2_with fail
        go_ret
        exact ⟨_, rfl, HO.out, hb⟩
end Go.Proofs.YtmhoacnbmbhcjaaGreatDoor

namespace Go.Proofs.YtmhoacnbmbhcjaaGreatDoor
open Go.RowKit Pl

def allD (l : List UInt8) : Bool := l.all fun c => decide (48 ≤ c.toNat) && decide (c.toNat ≤ 57)
def numv (l : List UInt8) : Int := l.foldl (fun n c => 10 * n + ((c.toNat : Int) - 48)) 0
/-- the integer that a word of digits is, with a sign -/
def intd (sg : Int) (t : List UInt8) : Int × Bool := if allD t && decide (t.length ≤ 5) then (sg * numv t, !t.isEmpty) else (0, false)
def intw (l : List UInt8) : Int × Bool := if l.head? = some 45 then intd (-1) l.tail else intd 1 l
theorem allD_app (a b : List UInt8) : allD (a ++ b) = (allD a && allD b) := by simp [allD]
theorem numv_snoc (a : List UInt8) (c : UInt8) : numv (a ++ [c]) = 10 * numv a + ((c.toNat : Int) - 48) := by simp [numv]
theorem numv_succ {s : ByteArray} {k : Nat} {r : Int} (h : k < s.size) (hr : r = numv (s.data.toList.take k)) : 10 * r + ((s[k].toNat : Int) - 48) = numv (s.data.toList.take (k + 1)) := by
  rw [take_snoc s k h, numv_snoc, hr]
theorem allD_succ {s : ByteArray} {k : Nat} (h : k < s.size) (hr : allD (s.data.toList.take k) = true) (h1 : 48 ≤ s[k].toNat) (h2 : s[k].toNat ≤ 57) : allD (s.data.toList.take (k + 1)) = true := by
  rw [take_snoc s k h, allD_app, hr]; simp [allD, h1, h2]
theorem notD_at {s : ByteArray} {k : Nat} (h : k < s.size) (hc : s[k].toNat < 48 ∨ 57 < s[k].toNat) : (allD s.data.toList && decide (s.data.toList.length ≤ 5)) = false := by
  have h1 : s.data.toList = s.data.toList.take (k + 1) ++ s.data.toList.drop (k + 1) := (List.take_append_drop _ _).symm
  rw [h1, allD_app, take_snoc s k h, allD_app]
  have : allD [s[k]] = false := by simp [allD]; omega
  rw [this]; simp
theorem numv_lt : ∀ (n : Nat) (l : List UInt8), l.length = n → allD l = true → 0 ≤ numv l ∧ numv l < 10 ^ n := by
  intro n
  induction n with
  | zero => intro l h _; rw [List.eq_nil_of_length_eq_zero h]; simp [numv]
  | succ n ih =>
    intro l h hd
    have hne : l ≠ [] := by intro e; rw [e] at h; simp at h
    have hl := List.dropLast_concat_getLast hne
    rw [← hl, allD_app, Bool.and_eq_true] at hd
    have h1 := ih l.dropLast (by rw [List.length_dropLast]; omega) hd.1
    have h2 : 48 ≤ (l.getLast hne).toNat ∧ (l.getLast hne).toNat ≤ 57 := by simpa [allD] using hd.2
    rw [← hl, numv_snoc, Int.pow_succ]
    omega
theorem numv_bound {l : List UInt8} (h : l.length ≤ 5) (hd : allD l = true) : numv l ≤ 99999 := by
  have h1 := (numv_lt l.length l rfl hd).2
  have h : l.length = 0 ∨ l.length = 1 ∨ l.length = 2 ∨ l.length = 3 ∨ l.length = 4 ∨ l.length = 5 := by omega
  rcases h with h | h | h | h | h | h <;> rw [h] at h1 <;> simp only [Int.reducePow] at h1 <;> omega

set_option maxHeartbeats 1600000 in
set_option maxRecDepth 100000 in
theorem integer_plain (s : ByteArray) (w : World) (hs : s.size ≤ 100000000) (hp : s.data.toList.head? ≠ some 45) :
    Calls Tryz.prog 166 #[.string s] w fun e w' => e = .returned (.tuple #[.int .i64 (intd 1 s.data.toList).1, .bool (intd 1 s.data.toList).2]) ∧ Below w.heap.size w w' := by
  have HI : Hid (((allD s.data.toList && decide (s.data.toList.length ≤ 5)) = true → intd 1 s.data.toList = (1 * numv s.data.toList, !s.data.toList.isEmpty)) ∧ ((allD s.data.toList && decide (s.data.toList.length ≤ 5)) = false → intd 1 s.data.toList = (0, false))) :=
    Lib.hid ⟨fun h => by unfold intd; rw [if_pos h], fun h => by unfold intd; rw [if_neg (by rw [h]; simp)]⟩
  by_cases h0 : s.size = 0
  · have hs0 : s = S [] := S_inj (List.eq_nil_of_length_eq_zero (by rw [len_eq]; exact h0))
    subst hs0
    have HF : Hid (intd 1 (S []).data.toList = (0, false)) := Lib.hid rfl
    clear HI h0 hp hs
    go_enter Tryz.func166, Tryz.ntmps166
    go_wp2_with fail
    go_loop [5, 6] (fun n i => n = .int .i64 0 ∧ i = .int .i64 0) (fun _ _ => 0)
    case atStart => exact ⟨rfl, rfl⟩
    case round =>
      obtain ⟨rfl, rfl⟩ := hrel
      go_wp2_with fail
      go_ret2
      exact ⟨by rw [HF.out]; rfl, Below.refl _ _⟩
  · have hc : s[0]'(by omega) ≠ 45 := by
      intro e
      refine hp ?_
      rw [List.head?_eq_getElem?, List.getElem?_eq_getElem (by rw [len_eq]; omega), Array.getElem_toList]
      exact congrArg some e
    have n1 : (((s[0]'(by omega)).toNat : Int) == 45) = false := by rw [beq_eq_false_iff_ne]; intro e; exact hc (UInt8.toNat_inj.1 (by simpa using Int.ofNat.inj e))
    have n2 : (s.toList == []) = false := ne_str (by intro e; have := len_eq s; rw [e] at this; simp at this; omega)
    have n3 : (0 : Int) < (s.size : Int) := by omega
    clear hp hc
    go_enter Tryz.func166, Tryz.ntmps166
    go_wp2_with fail
    go_loopw [5, 6] (fun v i wr => ∃ (k : Nat) (r : Int), k ≤ s.size ∧ k ≤ 5 ∧ i = .int .i64 k ∧ v = .int .i64 r ∧ 0 ≤ r ∧ r ≤ 99999 ∧ Hid (r = numv (s.data.toList.take k)) ∧ Hid (allD (s.data.toList.take k) = true) ∧ ∃ q, wr = w.drewN q) (fun _ i _ => s.size - (intOf i).toNat)
    case atStart => exact ⟨0, 0, Nat.zero_le _, by omega, rfl, rfl, by omega, by omega, Lib.hid (by simp [numv]), Lib.hid (by simp [allD]), ⟨0, rfl⟩⟩
    case round =>
      obtain ⟨k, r, hk, hk5, rfl, rfl, r0, r1, hr, hd, q, rfl⟩ := hrel
      by_cases hlt : k < s.size
      · have h0 : (0 : Int) ≤ (k : Int) := by omega
        have h1 : (k : Int) < (s.size : Int) := by omega
        have hcl := s[k].toNat_lt
        by_cases hlo : s[k].toNat < 48
        · have n1 : (s[k].toNat : Int) < 48 := by omega
          have HF := Lib.hid (HI.out.2 (by exact notD_at hlt (Or.inl hlo)))
          go_wp2_with fail
          go_ret2
          exact ⟨by rw [HF.out]; rfl, bdrewN (Below.refl _ _) _⟩
        · by_cases hhi : 57 < s[k].toNat
          · have n1 : ¬ (s[k].toNat : Int) < 48 := by omega
            have n2 : (57 : Int) < (s[k].toNat : Int) := by omega
            have HF := Lib.hid (HI.out.2 (by exact notD_at hlt (Or.inr hhi)))
            go_wp2_with fail
            go_ret2
            exact ⟨by rw [HF.out]; rfl, bdrewN (Below.refl _ _) _⟩
          · have n1 : ¬ (s[k].toNat : Int) < 48 := by omega
            have n2 : ¬ (57 : Int) < (s[k].toNat : Int) := by omega
            have HV := Lib.hid (numv_succ (s := s) hlt hr.out)
            have HDD := Lib.hid (allD_succ (s := s) hlt hd.out (by omega) (by omega))
            by_cases h5 : k = 5
            · have HF := Lib.hid (HI.out.2 (by rw [show decide (s.data.toList.length ≤ 5) = false from decide_eq_false (by rw [len_eq]; omega), Bool.and_false]))
              subst h5
              go_wp2_with fail
              go_ret2
              exact ⟨by rw [HF.out]; rfl, bdrewN (Below.refl _ _) _⟩
            · have n4 : ¬ (4 : Int) < (k : Int) := by omega
              have HB := Lib.hid (numv_bound (by rw [List.length_take]; omega : (s.data.toList.take (k + 1)).length ≤ 5) HDD.out)
              go_wp2_with fail
              go_roundw
              case rel => exact ⟨k + 1, 10 * r + ((s[k].toNat : Int) - 48), by omega, by omega, by go_num, by go_num, by omega, by rw [HV.out]; exact HB.out, HV, HDD, _, rfl⟩
              case measure => simp [intOf]; omega
      · have hT : s.data.toList.take k = s.data.toList := List.take_of_length_le (by rw [len_eq]; omega)
        have hne : s.data.toList.isEmpty = false := by
          rw [List.isEmpty_eq_false_iff]; intro e; have := len_eq s; rw [e] at this; simp at this; omega
        have hF : intd 1 s.data.toList = (r, true) := by
          rw [HI.out.1 (by rw [← hT, hd.out, hT, Bool.true_and]; exact decide_eq_true (by rw [len_eq]; omega)), hne, hr.out, hT]; simp
        have HF := Lib.hid hF
        clear hT hne hF
        go_wp2_with fail
        go_ret2
        exact ⟨by rw [HF.out]; rfl, bdrewN (Below.refl _ _) _⟩
set_option maxHeartbeats 1600000 in
set_option maxRecDepth 100000 in
theorem integer_minus (s : ByteArray) (w : World) (hs : s.size ≤ 100000000) (h0 : 0 < s.size) (hc : s[0] = 45) :
    Calls Tryz.prog 166 #[.string s] w fun e w' => e = .returned (.tuple #[.int .i64 (intd (-1) (s.data.toList.drop 1)).1, .bool (intd (-1) (s.data.toList.drop 1)).2]) ∧ Below w.heap.size w w' := by
  have ht : (s.extract 1 s.size).data.toList = s.data.toList.drop 1 := ex_end s 1
  have hts : (s.extract 1 s.size).size ≤ 100000000 := by
    rw [← len_eq, ht, List.length_drop, len_eq]; omega
  rw [← ht]
  clear ht
  have n2 : (s.toList == []) = false := ne_str (by intro e; have := len_eq s; rw [e] at this; simp at this; omega)
  have n3 : (0 : Int) < (s.size : Int) := by omega
  have n4 : (1 : Int) ≤ (s.size : Int) := by omega
  have n5 : ((s.size : Int)).toNat = s.size := by omega
  have HI : Hid (((allD (s.extract 1 s.size).data.toList && decide ((s.extract 1 s.size).data.toList.length ≤ 5)) = true → intd (-1) (s.extract 1 s.size).data.toList = ((-1) * numv (s.extract 1 s.size).data.toList, !(s.extract 1 s.size).data.toList.isEmpty)) ∧ ((allD (s.extract 1 s.size).data.toList && decide ((s.extract 1 s.size).data.toList.length ≤ 5)) = false → intd (-1) (s.extract 1 s.size).data.toList = (0, false))) :=
    Lib.hid ⟨fun h => by unfold intd; rw [if_pos h], fun h => by unfold intd; rw [if_neg (by rw [h]; simp)]⟩
  generalize intd (-1) (s.extract 1 s.size).data.toList = res at *
  go_enter Tryz.func166, Tryz.ntmps166
  go_wp2_with fail
  go_quiet (fail)
  generalize s.extract 1 s.size = t at *
  go_wp2_with fail
  go_loopw [5, 6] (fun v i wr => ∃ (k : Nat) (r : Int), k ≤ t.size ∧ k ≤ 5 ∧ i = .int .i64 k ∧ v = .int .i64 r ∧ 0 ≤ r ∧ r ≤ 99999 ∧ Hid (r = numv (t.data.toList.take k)) ∧ Hid (allD (t.data.toList.take k) = true) ∧ ∃ q, wr = w.drewN q) (fun _ i _ => t.size - (intOf i).toNat)
  case atStart => exact ⟨0, 0, Nat.zero_le _, by omega, rfl, rfl, by omega, by omega, Lib.hid (by simp [numv]), Lib.hid (by simp [allD]), ⟨_, rfl⟩⟩
  case round =>
    obtain ⟨k, r, hk, hk5, rfl, rfl, r0, r1, hr, hd, q, rfl⟩ := hrel
    by_cases hlt : k < t.size
    · have h0 : (0 : Int) ≤ (k : Int) := by omega
      have h1 : (k : Int) < (t.size : Int) := by omega
      have hcl := t[k].toNat_lt
      by_cases hlo : t[k].toNat < 48
      · have n1 : (t[k].toNat : Int) < 48 := by omega
        have HF := Lib.hid (HI.out.2 (by exact notD_at hlt (Or.inl hlo)))
        go_wp2_with fail
        go_ret2
        exact ⟨by rw [HF.out]; rfl, bdrewN (Below.refl _ _) _⟩
      · by_cases hhi : 57 < t[k].toNat
        · have n1 : ¬ (t[k].toNat : Int) < 48 := by omega
          have n2 : (57 : Int) < (t[k].toNat : Int) := by omega
          have HF := Lib.hid (HI.out.2 (by exact notD_at hlt (Or.inr hhi)))
          go_wp2_with fail
          go_ret2
          exact ⟨by rw [HF.out]; rfl, bdrewN (Below.refl _ _) _⟩
        · have n1 : ¬ (t[k].toNat : Int) < 48 := by omega
          have n2 : ¬ (57 : Int) < (t[k].toNat : Int) := by omega
          have HV := Lib.hid (numv_succ (s := t) hlt hr.out)
          have HDD := Lib.hid (allD_succ (s := t) hlt hd.out (by omega) (by omega))
          by_cases h5 : k = 5
          · have HF := Lib.hid (HI.out.2 (by rw [show decide (t.data.toList.length ≤ 5) = false from decide_eq_false (by rw [len_eq]; omega), Bool.and_false]))
            subst h5
            go_wp2_with fail
            go_ret2
            exact ⟨by rw [HF.out]; rfl, bdrewN (Below.refl _ _) _⟩
          · have n4 : ¬ (4 : Int) < (k : Int) := by omega
            have HB := Lib.hid (numv_bound (by rw [List.length_take]; omega : (t.data.toList.take (k + 1)).length ≤ 5) HDD.out)
            go_wp2_with fail
            go_roundw
            case rel => exact ⟨k + 1, 10 * r + ((t[k].toNat : Int) - 48), by omega, by omega, by go_num, by go_num, by omega, by rw [HV.out]; exact HB.out, HV, HDD, _, rfl⟩
            case measure => simp [intOf]; omega
    · have hT : t.data.toList.take k = t.data.toList := List.take_of_length_le (by rw [len_eq]; omega)
      have hall : (allD t.data.toList && decide (t.data.toList.length ≤ 5)) = true := by
        rw [← hT, hd.out, hT, Bool.true_and]; exact decide_eq_true (by rw [len_eq]; omega)
      have hrr := hr.out
      rw [hT] at hrr
      by_cases ht0 : t.size = 0
      · have htn : t = S [] := S_inj (List.eq_nil_of_length_eq_zero (by rw [len_eq]; exact ht0))
        have hF : res = (0, false) := by rw [HI.out.1 hall, htn]; rfl
        have hr0 : r = 0 := by rw [hrr, htn]; rfl
        have hk0 : k = 0 := by omega
        have HF := Lib.hid hF
        clear hT hall hrr hF hr HI hd
        subst htn hr0 hk0
        go_wp2_with fail
        go_ret2
        exact ⟨by rw [HF.out]; rfl, bdrewN (Below.refl _ _) _⟩
      · have hne : t.data.toList.isEmpty = false := by
          rw [List.isEmpty_eq_false_iff]; intro e; have := len_eq t; rw [e] at this; simp at this; omega
        have n6 : (t.toList == []) = false := ne_str (by intro e; have := len_eq t; rw [e] at this; simp at this; omega)
        have hF : res = (-r, true) := by
          rw [HI.out.1 hall, hne, hrr]; simp
        have HF := Lib.hid hF
        clear hT hne hF hall hrr
        go_wp2_with fail
        go_ret2
        exact ⟨by rw [HF.out]; rfl, bdrewN (Below.refl _ _) _⟩
theorem integer_any (s : ByteArray) (w : World) (hs : s.size ≤ 100000000) :
    Calls Tryz.prog 166 #[.string s] w fun e w' => e = .returned (.tuple #[.int .i64 (intw s.data.toList).1, .bool (intw s.data.toList).2]) ∧ Below w.heap.size w w' := by
  by_cases h : s.data.toList.head? = some 45
  · have h0 : 0 < s.size := by
      rcases Nat.eq_zero_or_pos s.size with h0 | h0
      · rw [List.eq_nil_of_length_eq_zero (by rw [len_eq]; exact h0 : s.data.toList.length = 0)] at h; cases h
      · exact h0
    have hc : s[0] = 45 := by
      rw [List.head?_eq_getElem?, List.getElem?_eq_getElem (by rw [len_eq]; omega), Array.getElem_toList] at h
      exact Option.some.inj h
    have := integer_minus s w hs h0 hc
    unfold intw
    rw [if_pos h, ← List.drop_one]
    exact this
  · have := integer_plain s w hs h
    unfold intw
    rw [if_neg h]
    exact this
end Go.Proofs.YtmhoacnbmbhcjaaGreatDoor

namespace Go.Proofs.YtmhoacnbmbhcjaaGreatDoor
open Go.RowKit Pl

theorem sp_last {a : List UInt8} (h : (32 : UInt8) ∉ a) : ∀ cur, sp cur a = [cur ++ a] := by
  induction a with
  | nil => intro cur; simp [sp]
  | cons c a ih =>
    intro cur
    have hc : c ≠ 32 := fun e => h (by simp [e])
    have ha : (32 : UInt8) ∉ a := fun e => h (by simp [e])
    simp only [sp, if_neg hc, ih ha]; simp
theorem sp_word {a : List UInt8} (h : (32 : UInt8) ∉ a) (b : List UInt8) : ∀ cur, sp cur (a ++ 32 :: b) = (cur ++ a) :: sp [] b := by
  induction a with
  | nil => intro cur; simp [sp]
  | cons c a ih =>
    intro cur
    have hc : c ≠ 32 := fun e => h (by simp [e])
    have ha : (32 : UInt8) ∉ a := fun e => h (by simp [e])
    rw [List.cons_append, sp, if_neg hc, ih ha]; simp
theorem dg_step {n : Nat} (h : 10 ≤ n) : dg n = dg (n / 10) ++ [UInt8.ofNat (48 + n % 10)] := by rw [dg_big h, dg_small (n := n % 10) (by omega)]
theorem digit_nat {d : Nat} (h : d < 10) : (UInt8.ofNat (48 + d)).toNat = 48 + d := by rw [UInt8.toNat_ofNat']; omega
theorem dg_all (n : Nat) : allD (dg n) = true := by
  induction n using Nat.strongRecOn with
  | ind n ih =>
    rcases Nat.lt_or_ge n 10 with h | h
    · have := digit_nat h
      rw [dg_small h]; simp only [allD, List.all_cons, List.all_nil, Bool.and_true, this]; simp; omega
    · have := digit_nat (d := n % 10) (by omega)
      rw [dg_step h, allD_app, ih (n / 10) (by omega)]; simp only [allD, List.all_cons, List.all_nil, Bool.and_true, Bool.true_and, this]; simp; omega
theorem dg_numv (n : Nat) : numv (dg n) = (n : Int) := by
  induction n using Nat.strongRecOn with
  | ind n ih =>
    rcases Nat.lt_or_ge n 10 with h | h
    · have := digit_nat h
      rw [dg_small h]; simp only [numv, List.foldl_cons, List.foldl_nil, this]; omega
    · have := digit_nat (d := n % 10) (by omega)
      rw [dg_step h, numv_snoc, ih (n / 10) (by omega), this]; omega
theorem dg_pos (n : Nat) : 0 < (dg n).length := by
  rcases Nat.lt_or_ge n 10 with h | h
  · rw [dg_small h]; simp
  · rw [dg_step h]; simp
theorem dg_lt : ∀ (k n : Nat), n < 10 ^ (k + 1) → (dg n).length ≤ k + 1 := by
  intro k
  induction k with
  | zero => intro n h; rw [dg_small (by simpa using h)]; simp
  | succ k ih =>
    intro n h
    rcases Nat.lt_or_ge n 10 with h1 | h1
    · rw [dg_small h1]; simp
    · have := ih (n / 10) (by rw [Nat.pow_succ] at h; omega)
      rw [dg_step h1, List.length_append]; simp only [List.length_cons, List.length_nil]; omega
theorem allD_mem {l : List UInt8} (h : allD l = true) : ∀ c ∈ l, 48 ≤ c.toNat ∧ c.toNat ≤ 57 := by
  intro c hc
  have := List.all_eq_true.1 h c hc
  simpa using this
theorem dg_not {n : Nat} {c : UInt8} (hc : c.toNat < 48) : c ∉ dg n := fun h => by have := allD_mem (dg_all n) c h; omega
theorem dint_blank (n : Int) : (32 : UInt8) ∉ dint n := by
  unfold dint
  split
  · intro h
    rcases List.mem_cons.1 h with h | h
    · exact absurd h (by decide)
    · exact dg_not (by decide) h
  · exact dg_not (by decide)
theorem intd_dg (sg : Int) {n : Nat} (h : n ≤ 99999) : intd sg (dg n) = (sg * n, true) := by
  have hl := dg_lt 4 n (by omega)
  have he : (dg n).isEmpty = false := by rw [List.isEmpty_eq_false_iff]; intro e; have := dg_pos n; rw [e] at this; simp at this
  unfold intd
  rw [dg_all, dg_numv, he, if_pos (by simpa using hl)]; rfl
theorem intw_dint {n : Int} (h0 : -99999 ≤ n) (h : n ≤ 99999) : intw (dint n) = (n, true) := by
  unfold dint
  split
  · rename_i hn
    unfold intw
    rw [List.head?_cons, if_pos rfl, List.tail_cons, intd_dg (-1) (by omega)]
    congr 1; omega
  · rename_i hn
    unfold intw
    rw [if_neg, intd_dg 1 (by omega)]
    · congr 1; omega
    · intro e
      have := List.mem_of_mem_head? e
      exact dg_not (by decide) this
end Go.Proofs.YtmhoacnbmbhcjaaGreatDoor
