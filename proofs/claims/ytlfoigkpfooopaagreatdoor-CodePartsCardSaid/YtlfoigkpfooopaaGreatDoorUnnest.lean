/- unnest, codeDistance, decodeDistance. By an AI agent. -/
import Derived.Test.YtlfoigkpfooopaaGreatDoorNum
namespace Go.Proofs.YtlfoigkpfooopaaGreatDoor
open Go.RowKit Pl

/-- the trees, m of them and what remains, of which a tree is nested -/
def unn : Nat → List UInt8 → Option (List (List UInt8))
  | 0, s => some [s]
  | m + 1, s => if s = [48] then none else (unn m (tl s)).map (hd s :: ·)
theorem unn_len : ∀ {m : Nat} {s : List UInt8} {l : List (List UInt8)}, unn m s = some l → l.length = m + 1 := by
  intro m
  induction m with
  | zero => intro s l h; simp only [unn, Option.some.injEq] at h; rw [← h]; rfl
  | succ m ih =>
    intro s l h
    simp only [unn] at h
    split at h
    · cases h
    · cases h1 : unn m (tl s) with
      | none => rw [h1] at h; cases h
      | some l1 => rw [h1] at h; simp only [Option.map_some, Option.some.injEq] at h; rw [← h, List.length_cons, ih h1]
theorem unn_vld : ∀ {m : Nat} {s : List UInt8} {l : List (List UInt8)}, vld s = true → unn m s = some l → ∀ x ∈ l, vld x = true := by
  intro m
  induction m with
  | zero => intro s l hv h; simp only [unn, Option.some.injEq] at h; rw [← h]; intro x hx; simp at hx; rw [hx]; exact hv
  | succ m ih =>
    intro s l hv h
    simp only [unn] at h
    split at h
    · cases h
    · cases h1 : unn m (tl s) with
      | none => rw [h1] at h; cases h
      | some l1 =>
        rw [h1] at h; simp only [Option.map_some, Option.some.injEq] at h
        rw [← h]
        intro x hx
        rcases List.mem_cons.1 hx with rfl | hx
        · exact (vld_hd hv).1
        · exact ih (vld_hd hv).2 h1 x hx
def UnPost (w : World) (r : Option (List (List UInt8))) (e : Ending) (w' : World) : Prop :=
  match r with
  | some l => ∃ v, e = .returned (.tuple #[v, .bool true]) ∧ w'.ownsRow w.heap.size 9 1 v l.length (strsV l) ∧ Below w.heap.size w w'
  | none => e = .returned (.tuple #[.slice none 0 0, .bool false]) ∧ Below w.heap.size w w'
def UnRel (s : List UInt8) (m k : Nat) (acc : List (List UInt8)) (cur : List UInt8) : Prop := vld cur = true ∧ acc.length = k ∧ unn m s = (unn (m - k) cur).map (acc ++ ·)
theorem UnRel.stop {s : List UInt8} {m k : Nat} {acc : List (List UInt8)} {cur : List UInt8} (h : UnRel s m k acc cur) (hk : k < m) (hc : cur = [48]) : unn m s = none := by
  obtain ⟨j, hj⟩ : ∃ j, m - k = j + 1 := ⟨m - k - 1, by omega⟩
  rw [h.2.2, hj, unn, if_pos hc]; rfl
theorem UnRel.step {s : List UInt8} {m k : Nat} {acc : List (List UInt8)} {cur : List UInt8} (h : UnRel s m k acc cur) (hk : k < m) (hc : cur ≠ [48]) : UnRel s m (k + 1) (acc ++ [hd cur]) (tl cur) := by
  obtain ⟨j, hj⟩ : ∃ j, m - k = j + 1 := ⟨m - k - 1, by omega⟩
  refine ⟨(vld_hd h.1).2, by simp [h.2.1], ?_⟩
  rw [h.2.2, hj, unn, if_neg hc, show m - (k + 1) = j by omega]
  cases unn j (tl cur) <;> simp
theorem UnRel.done {s : List UInt8} {m : Nat} {acc : List (List UInt8)} {cur : List UInt8} (h : UnRel s m m acc cur) : unn m s = some (acc ++ [cur]) := by
  rw [h.2.2, Nat.sub_self, unn]; rfl

set_option maxHeartbeats 3200000 in
set_option maxRecDepth 100000 in
theorem unnest_any (s : List UInt8) (m : Nat) (w : World) (hv : vld s = true) (hm : m ≤ 1000) :
    Calls Tryz.prog 69 #[.string (S s), .int .i64 ((m : Int) + 1)] w (UnPost w (unn m s)) := by
  obtain ⟨i0, hi, hz0, hz1, hz2⟩ := info_parts Tryz.infoStr
  have HV := Lib.hid hv; clear hv
  go_enter Tryz.func69, Tryz.ntmps69
  go_wp2
  go_loopw [0, 6, 13] (fun c v i wr => ∃ (k : Nat) (acc : List (List UInt8)) (cur : List UInt8), k ≤ m ∧ i = .int .i64 k ∧ c = .string (S cur) ∧ Hid (UnRel s m k acc cur) ∧ wr.ownsRow w.heap.size 9 1 v k (strsV acc) ∧ Below w.heap.size w wr) (fun _ _ i _ => m - (intOf i).toNat)
  case atStart => exact ⟨0, [], s, Nat.zero_le _, rfl, rfl, Lib.hid ⟨HV.out, rfl, by simp⟩, World.ownsRow_nil _ _ _ _, Below.refl _ _⟩
  case round =>
    obtain ⟨k, acc, cur, hk, rfl, rfl, hr, hown, hb⟩ := hrel
    have hsz := hb.size
    have hcv := Lib.hid hr.out.1
    have hcl : cur.length ≤ 2000000 := (vld_iff.1 hr.out.1).1
    by_cases hlt : k < m
    · have h1 : (k : Int) < (m : Int) := by omega
      by_cases hc : cur = [48]
      · have HN := Lib.hid (hr.out.stop hlt hc)
        have c1 : (cur == [48]) = true := by rw [hc]; rfl
        clear hc
        go_wp2_with fail
        go_ret2
        rw [HN.out]
        exact ⟨rfl, hb⟩
      · have HN := Lib.hid (hr.out.step hlt hc)
        have c1 : (cur == [48]) = false := beq_eq_false_iff_ne.2 hc
        clear hc
        go_wp2_with fail
        refine (Head_yes (S cur) _ hcv.out).mono ?_
        rintro e w1 ⟨rfl, h1⟩
        go_wp2_with fail
        refine (Tail_yes (S cur) _ hcv.out).mono ?_
        rintro e w2 ⟨rfl, h2⟩
        have hb2 : Below wr.heap.size wr w2 := h1.trans (h2.mono h1.size)
        have hown2 := own_keep hown hb2
        have hz2' := hb2.size
        go_wp2_with (at_builtin; refine wpList_append_own _ rfl _ _ 40 rfl w.heap.size 9 i0 (.string ⟨#[]⟩) 1 16 Tryz.underlying40 hi hz0 hz1 hz2 rfl (by decide) _ _ _ rfl (hown2.alloc _) ⟨w2.heap.size, 0, none⟩ 1 1 [.string (S (hd cur))] rfl rfl ?c1 ?c2 ?c3 ?c4 ?c5 ?_)
        case c1 =>
          intro t u ht
          match t, ht with
          | 0, ht => simp at ht; subst ht; simp [Addr.add]
        case c2 => intro u hu; simp at hu; subst hu; rfl
        case c3 => unfold maxLen; omega
        case c4 => omega
        case c5 => simp; omega
        intro v' w3 hown' hgrow _
        have hb4 := app_below (hb.trans (hb2.mono hsz)) (by omega) hown2 hgrow
        have ho : w3.ownsRow w.heap.size 9 1 v' (k + 1) (strsV (acc ++ [hd cur])) := by
          rw [strsV_snoc]; exact hown'
        have HO := Lib.hid ho
        clear ho hown' hgrow hown hown2 hb hb2 h1 h2
        go_wp2
        go_roundw
        case rel => exact ⟨k + 1, acc ++ [hd cur], tl cur, by omega, by go_num, rfl, HN, HO.out, hb4⟩
        case measure => simp [intOf]; omega
    · obtain rfl : k = m := by omega
      have HN := Lib.hid hr.out.done
      have HL := Lib.hid hr.out.2.1
      go_wp2_with (at_builtin; refine wpList_append_own _ rfl _ _ 40 rfl w.heap.size 9 i0 (.string ⟨#[]⟩) 1 16 Tryz.underlying40 hi hz0 hz1 hz2 rfl (by decide) _ _ _ rfl (hown.alloc _) ⟨wr.heap.size, 0, none⟩ 1 1 [.string (S cur)] rfl rfl ?c1 ?c2 ?c3 ?c4 ?c5 ?_)
      case c1 =>
        intro t u ht
        match t, ht with
        | 0, ht => simp at ht; subst ht; simp [Addr.add]
      case c2 => intro u hu; simp at hu; subst hu; rfl
      case c3 => unfold maxLen; omega
      case c4 => omega
      case c5 => simp; omega
      intro v' w3 hown' hgrow _
      have hb4 := app_below hb hsz hown hgrow
      have ho : w3.ownsRow w.heap.size 9 1 v' (acc ++ [cur]).length (strsV (acc ++ [cur])) := by
        rw [strsV_snoc, List.length_append, HL.out]; exact hown'
      have HO := Lib.hid ho
      clear ho hown' hgrow hown hb
      go_wp2
      go_ret2
      rw [HN.out]
      exact ⟨_, rfl, HO.out, hb4⟩
end Go.Proofs.YtlfoigkpfooopaaGreatDoor
