/- Package code: readProgram. By an AI agent. -/
import Derived.Test.YtmhoacnbmbhcjaaGreatDoorRdr
import Derived.Test.YtmhoacnbmbhcjaaGreatDoorPrg
import Derived.Test.YtmhoacnbmbhcjaaGreatDoorItm
import Derived.Test.YtmhoacnbmbhcjaaGreatDoorTxt
import Derived.Test.YtmhoacnbmbhcjaaGreatDoorMth
namespace Go.Proofs.YtmhoacnbmbhcjaaGreatDoor
open Go.RowKit Pl

theorem set5 {α : Type} (xs : List α) (m : Nat) (v0 v1 v2 v3 v4 : α) (h : m + 5 ≤ xs.length) :
    (((((xs.set m v0).set (m + 1) v1).set (m + 2) v2).set (m + 3) v3).set (m + 4) v4).take (m + 5) = xs.take m ++ [v0, v1, v2, v3, v4] := by
  obtain ⟨A, R, rfl, hA⟩ : ∃ A R, xs = A ++ R ∧ A.length = m := ⟨xs.take m, xs.drop m, (List.take_append_drop _ _).symm, by simp; omega⟩
  subst hA
  obtain ⟨c0, c1, c2, c3, c4, B, rfl⟩ : ∃ c0 c1 c2 c3 c4 B, R = c0 :: c1 :: c2 :: c3 :: c4 :: B := by
    rcases R with _ | ⟨c0, _ | ⟨c1, _ | ⟨c2, _ | ⟨c3, _ | ⟨c4, B⟩⟩⟩⟩⟩
    · exact absurd h (by simp)
    · simp at h
    · simp at h
    · simp at h
    · simp at h
    · exact ⟨c0, c1, c2, c3, c4, B, rfl⟩
  rw [List.set_append_right _ _ (by omega), List.set_append_right _ _ (by omega), List.set_append_right _ _ (by omega), List.set_append_right _ _ (by omega), List.set_append_right _ _ (by omega)]
  simp only [Nat.sub_self, Nat.add_sub_cancel_left, List.set_cons_zero, List.set_cons_succ]
  rw [List.take_left]
  rw [show A ++ (v0 :: v1 :: v2 :: v3 :: v4 :: B) = (A ++ [v0, v1, v2, v3, v4]) ++ B by simp, show A.length + 5 = (A ++ [v0, v1, v2, v3, v4]).length by simp, List.take_left]
def rdAll (rd : List UInt8 → Option Ins) : List (List UInt8) → Option (List Ins)
  | [] => some []
  | s :: ls => (rd s).bind fun x => (rdAll rd ls).map fun xs => x :: xs
theorem rdAll_snoc (rd : List UInt8 → Option Ins) (ls : List (List UInt8)) (s : List UInt8) : rdAll rd (ls ++ [s]) = (rdAll rd ls).bind fun xs => (rd s).map fun x => xs ++ [x] := by
  induction ls with
  | nil => simp only [List.nil_append, rdAll]; cases rd s <;> simp
  | cons a ls ih =>
    rw [List.cons_append, rdAll, ih, rdAll]
    cases rd a with
    | none => rfl
    | some x => cases rdAll rd ls with
      | none => rfl
      | some xs => cases rd s <;> rfl
theorem rdAll_none {rd : List UInt8 → Option Ins} {ls : List (List UInt8)} {s : List UInt8} (h : s ∈ ls) (hn : rd s = none) : rdAll rd ls = none := by
  induction ls with
  | nil => cases h
  | cons a ls ih =>
    rcases List.mem_cons.1 h with rfl | h
    · rw [rdAll, hn]; rfl
    · rw [rdAll, ih h]; cases rd a <;> rfl
theorem rdAll_len {rd : List UInt8 → Option Ins} : ∀ {ls : List (List UInt8)} {ps : List Ins}, rdAll rd ls = some ps → ps.length = ls.length
  | [], ps, h => by simp only [rdAll, Option.some.injEq] at h; rw [← h]; rfl
  | a :: ls, ps, h => by
    rw [rdAll] at h
    cases ha : rd a with
    | none => rw [ha] at h; cases h
    | some x =>
      rw [ha] at h
      cases hl : rdAll rd ls with
      | none => rw [hl] at h; cases h
      | some xs =>
        rw [hl] at h
        simp only [Option.bind_some, Option.map_some, Option.some.injEq] at h
        rw [← h, List.length_cons, List.length_cons, rdAll_len hl]
/-- the strings a slice holds: any address, nil too -/
def StrsIn (w : World) (v : Value) (ls : List (List UInt8)) : Prop := ∃ b off cap, v = .slice (some ⟨b, off, none⟩) ls.length cap ∧ b < w.heap.size ∧ ∀ j, j < ls.length → w.cell? ⟨b, off + j, none⟩ = some (.string (S (ls.getD j [])))
def RPPost (w : World) (r : Option (List Ins)) (e : Ending) (w' : World) : Prop :=
  match r with
  | some ps => ∃ v q, e = .returned (.tuple #[v, .bool q]) ∧ (q = true ↔ PValid ps) ∧ ArgP w' v ps ∧ Below w.heap.size w w'
  | none => e = .returned (.tuple #[.slice none 0 0, .bool false]) ∧ Below w.heap.size w w'

theorem own_stored5 {w : World} {B g n m : Nat} {e : TypeId} {xs : List Value} (h : w.ownsRow B e 5 (.slice (some ⟨g, 0, none⟩) n n) n xs) (v0 v1 v2 v3 v4 : Value) :
    (((((w.setCell ⟨g, m, none⟩ v0).setCell ⟨g, m + 1, none⟩ v1).setCell ⟨g, m + 2, none⟩ v2).setCell ⟨g, m + 3, none⟩ v3).setCell ⟨g, m + 4, none⟩ v4).ownsRow B e 5 (.slice (some ⟨g, 0, none⟩) n n) n (((((xs.set m v0).set (m + 1) v1).set (m + 2) v2).set (m + 3) v3).set (m + 4) v4) :=
  (((((h.stored m v0).1.stored (m + 1) v1).1.stored (m + 2) v2).1.stored (m + 3) v3).1.stored (m + 4) v4).1
theorem below5at {B b m : Nat} {w0 w : World} (v0 v1 v2 v3 v4 : Value) (h : Below B w0 w) (hb : B ≤ b) :
    Below B w0 (((((w.setCell ⟨b, m, none⟩ v0).setCell ⟨b, m + 1, none⟩ v1).setCell ⟨b, m + 2, none⟩ v2).setCell ⟨b, m + 3, none⟩ v3).setCell ⟨b, m + 4, none⟩ v4) :=
  ((((h.setCell (p := ⟨b, m, none⟩) hb _).setCell (p := ⟨b, m + 1, none⟩) hb _).setCell (p := ⟨b, m + 2, none⟩) hb _).setCell (p := ⟨b, m + 3, none⟩) hb _).setCell (p := ⟨b, m + 4, none⟩) hb _
theorem own_cell5 {w : World} {B g n : Nat} {e : TypeId} {xs : List Value} (h : w.ownsRow B e 5 (.slice (some ⟨g, 0, none⟩) n n) n xs) (j : Nat) (hj : j < n * 5) : ∃ u, w.cell? ⟨g, j, none⟩ = some u := by
  have hx := h.1
  rw [h.cellAt j hj]
  exact ⟨xs[j]'(by omega), List.getElem?_eq_getElem _⟩
theorem rdAll_mem {rd : List UInt8 → Option Ins} : ∀ {ls : List (List UInt8)} {ps : List Ins}, rdAll rd ls = some ps → ∀ x ∈ ps, ∃ s ∈ ls, rd s = some x
  | [], ps, h, x, hx => by simp only [rdAll, Option.some.injEq] at h; rw [← h] at hx; cases hx
  | a :: ls, ps, h, x, hx => by
    rw [rdAll] at h
    cases ha : rd a with
    | none => rw [ha] at h; cases h
    | some y =>
      rw [ha] at h
      cases hl : rdAll rd ls with
      | none => rw [hl] at h; cases h
      | some ys =>
        rw [hl] at h
        simp only [Option.bind_some, Option.map_some, Option.some.injEq] at h
        rw [← h] at hx
        rcases List.mem_cons.1 hx with rfl | hx
        · exact ⟨a, List.mem_cons_self, ha⟩
        · obtain ⟨s, hs, e⟩ := rdAll_mem hl x hx
          exact ⟨s, List.mem_cons_of_mem _ hs, e⟩

set_option maxHeartbeats 6400000 in
set_option maxRecDepth 100000 in
theorem readProgram_few (g t b off cap : Nat) (rd : List UInt8 → Option Ins) (ls : List (List UInt8)) (w : World) (hl : ls.length ≤ 4000) (hl0 : 0 < ls.length)
    (hb : b < w.heap.size) (hc : ∀ j, j < ls.length → w.cell? ⟨b, off + j, none⟩ = some (.string (S (ls.getD j []))))
    (hz : ∀ s ∈ ls, ∀ x, rd s = some x → x.tree.length ≤ 281474976710656)
    (eg : ∀ args w, (callFunc g args).run Tryz.prog w = .ok (.enter g args) w)
    (hg : ∀ (W : World) (s : List UInt8), s ∈ ls → Below w.heap.size w W → Calls Tryz.prog g #[.pointer (some ⟨t, 0, none⟩), .string (S s)] W (MPost W (rd s))) :
    Calls Tryz.prog 99 #[.slice (some ⟨b, off, none⟩) ls.length cap, .func (.func g) #[.pointer (some ⟨t, 0, none⟩)] #[]] w (RPPost w (rdAll rd ls)) := by
  obtain ⟨i0, hi, hz0, hz1, hz2⟩ := info_parts Tryz.infoIns
  have HC := Lib.hid hc; have HG := Lib.hid hg; have HZ := Lib.hid hz
  obtain ⟨n, hn⟩ : ∃ n, n = ls.length := ⟨_, rfl⟩
  rw [← hn] at hl hl0 ⊢
  have HN := Lib.hid hn
  clear hc hg hz hn
  go_enter Tryz.func99, Tryz.ntmps99
  go_wp2_with (at_make; refine wpList_make_full _ rfl _ _ 23 rfl w.heap.size 64 i0 (.agg #[.int .i64 0, .int .i64 0, .int .i64 0, .int .i64 0, .string ⟨#[]⟩]) 5 Tryz.underlying23 hi hz0 hz1 .i64 .i64 _ _ n rfl rfl rfl rfl (by rw [hz2]; omega) (by unfold maxLen; omega) (Nat.le_refl _) ?_)
  intro w1 hown hgrow
  have hb1 : Below w.heap.size w w1 := (Below.refl _ _).grown hgrow (Nat.le_refl _) (by simp)
  obtain ⟨xs, HO⟩ : ∃ xs, Hid (w1.ownsRow w.heap.size 64 5 (.slice (some ⟨w.heap.size, 0, none⟩) n n) n xs) := ⟨_, Lib.hid hown⟩
  clear hown hgrow hi hz0 hz1 hz2
  go_wp2
  go_loopw [19] (fun i wr => ∃ (k : Nat) (pre : List Ins) (ys : List Value), k ≤ n ∧ i = .int .i64 k ∧ Hid (pre.length = k) ∧ Hid (rdAll rd (ls.take k) = some pre) ∧ Hid (wr.ownsRow w.heap.size 64 5 (.slice (some ⟨w.heap.size, 0, none⟩) n n) n ys) ∧ Hid (ys.take (k * 5) = progV pre) ∧ Below w.heap.size w wr) (fun i _ => n - (intOf i).toNat)
  case atStart => exact ⟨0, [], xs, Nat.zero_le _, rfl, Lib.hid rfl, Lib.hid (by simp [rdAll]), HO, Lib.hid (by simp [progV]), hb1⟩
  case round =>
    clear HO hb1
    obtain ⟨k, pre, ys, hk, rfl, HL, HR, HO, HY, hb⟩ := hrel
    have hsz := hb.size
    by_cases hlt : k < n
    · have hk1 : (k : Int) < (n : Int) := by omega
      have hc0 := (hb.cell (p := ⟨b, off + k, none⟩) ‹b < w.heap.size›).trans (HC.out k (by have := HN.out; omega))
      obtain ⟨s, hs⟩ : ∃ s, s = ls.getD k [] := ⟨_, rfl⟩
      rw [← hs] at hc0
      have hkl : k < ls.length := by have := HN.out; omega
      have HS : Hid (ls[k]? = some s) := Lib.hid (by rw [hs, List.getD_eq_getElem?_getD, List.getElem?_eq_getElem hkl]; rfl)
      clear hs hkl
      go_wp2_with fail
      refine (HG.out _ s (List.mem_of_getElem? HS.out) hb).mono ?_
      cases hrd : rd s with
      | none =>
        have HF : Hid (rdAll rd ls = none) := Lib.hid (rdAll_none (List.mem_of_getElem? HS.out) hrd)
        rintro e w2 ⟨rfl, h2⟩
        have hb2 := hb.trans (h2.mono hsz)
        have hs2 := h2.size
        clear hrd h2 hb
        go_wp2_with fail
        go_ret2
        rw [HF.out]
        exact ⟨rfl, hb2.alloc (Nat.le_trans hsz hs2) _⟩
      | some x =>
        rintro e w2 ⟨rfl, h2⟩
        have hb2 := hb.trans (h2.mono hsz)
        have hs2 := hb2.size
        have own3 := (own_keep HO.out h2).alloc (.cells #[.int .i64 x.op, .int .i64 x.a, .int .i64 x.b, .int .i64 x.c, .string (S x.tree)] 64)
        have hb3 : Below w.heap.size w (w2.alloc (.cells #[.int .i64 x.op, .int .i64 x.a, .int .i64 x.b, .int .i64 x.c, .string (S x.tree)] 64)) := hb2.alloc hs2 _
        obtain ⟨u0, c0⟩ := own_cell5 own3 (k * 5) (by omega)
        obtain ⟨u1, c1⟩ := own_cell5 own3 (k * 5 + 1) (by omega)
        obtain ⟨u2, c2⟩ := own_cell5 own3 (k * 5 + 2) (by omega)
        obtain ⟨u3, c3⟩ := own_cell5 own3 (k * 5 + 3) (by omega)
        obtain ⟨u4, c4⟩ := own_cell5 own3 (k * 5 + 4) (by omega)
        have f0 := own3.frozenAt (k * 5)
        have f1 := own3.frozenAt (k * 5 + 1)
        have f2 := own3.frozenAt (k * 5 + 2)
        have f3 := own3.frozenAt (k * 5 + 3)
        have f4 := own3.frozenAt (k * 5 + 4)
        have HO4 := Lib.hid (own_stored5 (m := k * 5) own3 (.int .i64 x.op) (.int .i64 x.a) (.int .i64 x.b) (.int .i64 x.c) (.string (S x.tree)))
        have HB4 := Lib.hid (below5at (m := k * 5) (.int .i64 x.op) (.int .i64 x.a) (.int .i64 x.b) (.int .i64 x.c) (.string (S x.tree)) hb3 (Nat.le_refl w.heap.size))
        have HY4 : Hid ((((((ys.set (k * 5) (.int .i64 x.op)).set (k * 5 + 1) (.int .i64 x.a)).set (k * 5 + 2) (.int .i64 x.b)).set (k * 5 + 3) (.int .i64 x.c)).set (k * 5 + 4) (.string (S x.tree))).take ((k + 1) * 5) = progV (pre ++ [x])) := Lib.hid (by
          rw [show (k + 1) * 5 = k * 5 + 5 by omega, set5 ys (k * 5) _ _ _ _ _ (by have := own3.1; omega), HY.out, progV_app, progV_one]; rfl)
        have HR4 : Hid (rdAll rd (ls.take (k + 1)) = some (pre ++ [x])) := Lib.hid (by
          rw [List.take_add_one, HS.out, Option.toList_some, rdAll_snoc, HR.out, hrd]; rfl)
        clear own3 hb3 hb hb2 h2 hrd
        go_wp2_with fail
        go_roundw
        case rel => exact ⟨k + 1, pre ++ [x], _, by omega, by go_num, Lib.hid (by rw [List.length_append, HL.out]; rfl), HR4, HO4, HY4, HB4.out⟩
        case measure => simp [intOf]; omega
    · obtain rfl : k = n := by omega
      obtain ⟨r, hr⟩ := pv_bool pre
      have HA : ArgP wr (.slice (some ⟨w.heap.size, 0, none⟩) k k) pre := by
        have h := HO.out
        rw [show ys = progV pre by rw [← HY.out, List.take_of_length_le (by have := HO.out.1; omega)]] at h
        exact (own_prog h).2.1
      have HV := Lib.hid (fun W h => CV_arg W (.slice (some ⟨w.heap.size, 0, none⟩) k k) pre r h (by rw [HL.out]; omega) (fun x hx => by obtain ⟨s, hs, e⟩ := rdAll_mem HR.out x hx; exact HZ.out s (List.mem_of_mem_take hs) x e) hr)
      have HF : Hid (rdAll rd ls = some pre) := Lib.hid (by have := HR.out; rwa [List.take_of_length_le (by have := HN.out; omega)] at this)
      have HA := Lib.hid HA
      have HR := Lib.hid hr
      clear hr
      go_wp2_with fail
      refine (HV.out _ HA.out).mono ?_
      rintro e w2 ⟨rfl, h2⟩
      go_wp2_with fail
      go_ret2
      rw [HF.out]
      exact ⟨_, r, rfl, HR.out, HA.out.below h2, hb.trans (h2.mono hsz)⟩
set_option maxHeartbeats 6400000 in
set_option maxRecDepth 100000 in
theorem readProgram_none (a : Option Addr) (cap g t : Nat) (w : World) :
    Calls Tryz.prog 99 #[.slice a 0 cap, .func (.func g) #[.pointer (some ⟨t, 0, none⟩)] #[]] w (RPPost w (some [])) := by
  obtain ⟨i0, hi, hz0, hz1, hz2⟩ := info_parts Tryz.infoIns
  go_enter Tryz.func99, Tryz.ntmps99
  go_wp2_with (at_make; refine wpList_make_full _ rfl _ _ 23 rfl w.heap.size 64 i0 (.agg #[.int .i64 0, .int .i64 0, .int .i64 0, .int .i64 0, .string ⟨#[]⟩]) 5 Tryz.underlying23 hi hz0 hz1 .i64 .i64 _ _ 0 rfl rfl rfl rfl (by rw [hz2]; omega) (by unfold maxLen; omega) (Nat.le_refl _) ?_)
  intro w1 hown hgrow
  have hb1 : Below w.heap.size w w1 := (Below.refl _ _).grown hgrow (Nat.le_refl _) (by simp)
  clear hown hgrow hi hz0 hz1 hz2
  go_wp2
  go_loopw [19] (fun i wr => i = .int .i64 0 ∧ Below w.heap.size w wr) (fun _ _ => 0)
  case atStart => exact ⟨rfl, hb1⟩
  case round =>
    clear hb1
    obtain ⟨rfl, hb⟩ := hrel
    go_wp2_with fail
    refine (CV_none _ (some ⟨w.heap.size, 0, none⟩) 0).mono ?_
    rintro e w2 ⟨rfl, h2⟩
    go_wp2_with fail
    go_ret2
    exact ⟨_, true, rfl, by simp [PValid, trees, AllR], Or.inl ⟨rfl, Or.inr ⟨_, _, rfl⟩⟩, hb.trans (h2.mono hb.size)⟩
set_option maxHeartbeats 6400000 in
set_option maxRecDepth 100000 in
theorem readProgram_many (a : Option Addr) (n cap g t : Nat) (w : World) (h : 4000 < n) :
    Calls Tryz.prog 99 #[.slice a n cap, .func (.func g) #[.pointer (some ⟨t, 0, none⟩)] #[]] w (RPPost w none) := by
  have h1 : (4000 : Int) < (n : Int) := by omega
  go_enter Tryz.func99, Tryz.ntmps99
  go_wp2
  go_ret2
  exact ⟨rfl, Below.refl _ _⟩
/-- readProgram, of any strings -/
theorem readProgram_any (g t : Nat) (rd : List UInt8 → Option Ins) (ls : List (List UInt8)) (v : Value) (w : World)
    (hv : (ls = [] ∧ ∃ a cap, v = .slice a 0 cap) ∨ StrsIn w v ls)
    (hz : ∀ s ∈ ls, ∀ x, rd s = some x → x.tree.length ≤ 281474976710656)
    (eg : ∀ args w, (callFunc g args).run Tryz.prog w = .ok (.enter g args) w)
    (hg : ∀ (W : World) (s : List UInt8), s ∈ ls → Below w.heap.size w W → Calls Tryz.prog g #[.pointer (some ⟨t, 0, none⟩), .string (S s)] W (MPost W (rd s))) :
    Calls Tryz.prog 99 #[v, .func (.func g) #[.pointer (some ⟨t, 0, none⟩)] #[]] w (RPPost w (if 4000 < ls.length then none else rdAll rd ls)) := by
  rcases hv with ⟨rfl, a, cap, rfl⟩ | ⟨b, off, cap, rfl, hb, hc⟩
  · exact readProgram_none a cap g t w
  · by_cases h : 4000 < ls.length
    · rw [if_pos h]; exact readProgram_many _ _ cap g t w h
    · rw [if_neg h]
      by_cases h0 : 0 < ls.length
      · exact readProgram_few g t b off cap rd ls w (by omega) h0 hb hc hz eg hg
      · obtain rfl : ls = [] := List.eq_nil_of_length_eq_zero (by omega)
        exact readProgram_none _ cap g t w
end Go.Proofs.YtmhoacnbmbhcjaaGreatDoor

namespace Go.Proofs.YtmhoacnbmbhcjaaGreatDoor
open Go.RowKit Pl

theorem alt_num : ∀ (k : Nat) {l : List UInt8}, l.length ≤ k → vld l = true → alt l = true → ∃ n, l = num n := by
  intro k
  induction k with
  | zero =>
    intro l hl hv _
    have : l = [] := List.eq_nil_of_length_eq_zero (by omega)
    subst this
    exact absurd hv (by decide)
  | succ k ih =>
    intro l hl hv ha
    by_cases h0 : l = [48]
    · exact ⟨0, by rw [h0]; rfl⟩
    · obtain ⟨he, h1, h2⟩ := cons_hd_tl hv h0
      have hh : hd l = [48] := by
        by_cases h3 : hd l = [48]
        · exact h3
        · have h4 := (cons_hd_tl h1 h3).1
          rw [← he, ← h4] at ha
          simp [alt] at ha
      rw [hh] at he
      rw [← he] at ha
      have ha2 : alt (tl l) = true := by simpa [alt] using ha
      have hle := congrArg List.length he
      simp at hle
      obtain ⟨n, hn⟩ := ih (by omega) h2 ha2
      exact ⟨n + 1, by rw [num_succ, ← hn]; exact he.symm⟩
theorem num_of {l : List UInt8} (hv : vld l = true) (ha : alt l = true) : num (val l).toNat = l := by
  obtain ⟨n, rfl⟩ := alt_num l.length (Nat.le_refl _) hv ha
  rw [num_val, Int.toNat_natCast]
theorem pr_hd_tl {s : List UInt8} (h : vld s = true) (h0 : s ≠ [48]) : pr (hd s) (tl s) = s := (cons_hd_tl h h0).1
theorem unn_nest : ∀ {m : Nat} {s : List UInt8} {l : List (List UInt8)}, vld s = true → unn m s = some l → nestT l = s := by
  intro m
  induction m with
  | zero => intro s l _ h; simp only [unn, Option.some.injEq] at h; rw [← h]; rfl
  | succ m ih =>
    intro s l hv h
    simp only [unn] at h
    split at h
    · cases h
    · rename_i h0
      cases h1 : unn m (tl s) with
      | none => rw [h1] at h; cases h
      | some l1 =>
        rw [h1] at h; simp only [Option.map_some, Option.some.injEq] at h
        have h2 := ih (vld_hd hv).2 h1
        have h3 := unn_len h1
        rcases l1 with _ | ⟨y, l1⟩
        · simp at h3
        · rw [← h, nestT, h2, pr_hd_tl hv h0]; intro e; cases e
theorem nest_unn : ∀ (l : List (List UInt8)) (m : Nat), l.length = m + 1 → (∀ x ∈ l, vld x = true) → unn m (nestT l) = some l
  | [], m, h, _ => by simp at h
  | [z], m, h, _ => by
    obtain rfl : m = 0 := by simpa using h
    rfl
  | x :: y :: l, m, h, hv => by
    obtain ⟨m, rfl⟩ : ∃ j, m = j + 1 := ⟨m - 1, by simp at h; omega⟩
    have hx := hv x (by simp)
    have ih := nest_unn (y :: l) m (by simpa using h) (fun z hz => hv z (List.mem_cons_of_mem _ hz))
    have e : nestT (x :: y :: l) = pr x (nestT (y :: l)) := by rw [nestT]; intro e; cases e
    rw [e, unn, if_neg (by intro e; have := congrArg List.head? e; simp [pr] at this), hd_pr hx, tl_pr hx, ih]; rfl
end Go.Proofs.YtmhoacnbmbhcjaaGreatDoor

namespace Go.Proofs.YtmhoacnbmbhcjaaGreatDoor
open Go.RowKit Pl

/-- how numbers and distances are read and written -/
structure Form where
  N : List UInt8 → Option Int
  D : List UInt8 → Option Int
  n : Int → List UInt8
  d : Int → List UInt8
def Form.rd (F : Form) (s : List UInt8) (x : Ins) : Fld → Option Ins
  | .reg j => (F.N s).map fun v => x.setN j v
  | .dist => (F.D s).map fun v => x.setN 2 v
  | .con => if vld s = true then some { x with tree := s } else none
def Form.wr (F : Form) (x : Ins) : Fld → List UInt8
  | .reg j => F.n (x.getN j)
  | .dist => F.d x.b
  | .con => x.tree
def codF : Form := ⟨DNum, dd, fun v => num v.toNat, cd⟩
def txtF : Form := ⟨pn, pn, Lib.itoa, Lib.itoa⟩
theorem cod_rd : Fld.dec = codF.rd := by funext s x f; cases f <;> rfl
theorem cod_wr : Fld.cod = codF.wr := by funext x f; cases f <;> rfl
theorem txt_rd : Fld.par = txtF.rd := by funext s x f; cases f <;> rfl
theorem txt_wr : Fld.txt = txtF.wr := by funext x f; cases f <;> rfl
theorem obind {α β : Type} {o : Option α} {f : α → Option β} {y : β} (h : o.bind f = some y) : ∃ a, o = some a ∧ f a = some y := Option.bind_eq_some_iff.1 h
theorem omap {α β : Type} {o : Option α} {f : α → β} {y : β} (h : o.map f = some y) : ∃ a, o = some a ∧ f a = y := Option.map_eq_some_iff.1 h
theorem flds_case {k : Nat} (h : k < 6) : (k = 0 ∧ fldsOf k = [.reg 1, .con]) ∨ ((k = 1 ∨ k = 3 ∨ k = 4) ∧ fldsOf k = [.reg 1, .reg 2]) ∨ (k = 2 ∧ fldsOf k = [.reg 1, .reg 2, .reg 3]) ∨ (k = 5 ∧ fldsOf k = [.reg 1, .dist]) := by
  match k, h with
  | 0, _ => exact .inl ⟨rfl, rfl⟩
  | 1, _ => exact .inr (.inl ⟨.inl rfl, rfl⟩)
  | 2, _ => exact .inr (.inr (.inl ⟨rfl, rfl⟩))
  | 3, _ => exact .inr (.inl ⟨.inr (.inl rfl), rfl⟩)
  | 4, _ => exact .inr (.inl ⟨.inr (.inr rfl), rfl⟩)
  | 5, _ => exact .inr (.inr (.inr ⟨rfl, rfl⟩))
theorem form_inv (F : Form) {k : Nat} {ts : List (List UInt8)} {x : Ins} (hk : k < 6) (hl : ts.length = (fldsOf k).length)
    (hN : ∀ t ∈ ts, ∀ v, F.N t = some v → F.n v = t) (hD : ∀ t ∈ ts, ∀ v, F.D t = some v → F.d v = t)
    (h : foldF F.rd (fldsOf k) ts (ins0 k) = some x) : (fldsOf k).map (F.wr x) = ts ∧ x.op = k ∧ (x.tree = [] ∨ x.tree ∈ ts) := by
  rcases flds_case hk with ⟨_, e⟩ | ⟨_, e⟩ | ⟨_, e⟩ | ⟨_, e⟩
  · rw [e] at hl h ⊢
    obtain ⟨t1, t2, rfl⟩ : ∃ t1 t2, ts = [t1, t2] := by
      rcases ts with _ | ⟨t1, _ | ⟨t2, _ | ⟨t3, ts⟩⟩⟩ <;> simp at hl; exact ⟨t1, t2, rfl⟩
    simp only [foldF] at h
    obtain ⟨y, h1, h⟩ := obind h
    obtain ⟨z, h2, h⟩ := obind h
    obtain rfl : z = x := by simpa using h
    obtain ⟨v1, e1, rfl⟩ := omap h1
    have g1 := hN t1 (by simp) v1 e1
    simp only [Form.rd] at h2
    split at h2
    · obtain rfl := Option.some.inj h2
      exact ⟨by simp [Form.wr, Ins.getN, Ins.setN, ins0, g1], rfl, .inr (by simp)⟩
    · cases h2
  · rw [e] at hl h ⊢
    obtain ⟨t1, t2, rfl⟩ : ∃ t1 t2, ts = [t1, t2] := by
      rcases ts with _ | ⟨t1, _ | ⟨t2, _ | ⟨t3, ts⟩⟩⟩ <;> simp at hl; exact ⟨t1, t2, rfl⟩
    simp only [foldF] at h
    obtain ⟨y, h1, h⟩ := obind h
    obtain ⟨z, h2, h⟩ := obind h
    obtain rfl : z = x := by simpa using h
    obtain ⟨v1, e1, rfl⟩ := omap h1
    obtain ⟨v2, e2, rfl⟩ := omap h2
    have g1 := hN t1 (by simp) v1 e1
    have g2 := hN t2 (by simp) v2 e2
    exact ⟨by simp [Form.wr, Ins.getN, Ins.setN, ins0, g1, g2], rfl, .inl rfl⟩
  · rw [e] at hl h ⊢
    obtain ⟨t1, t2, t3, rfl⟩ : ∃ t1 t2 t3, ts = [t1, t2, t3] := by
      rcases ts with _ | ⟨t1, _ | ⟨t2, _ | ⟨t3, _ | ⟨t4, ts⟩⟩⟩⟩ <;> simp at hl; exact ⟨t1, t2, t3, rfl⟩
    simp only [foldF] at h
    obtain ⟨y, h1, h⟩ := obind h
    obtain ⟨y2, h2, h⟩ := obind h
    obtain ⟨z, h3, h⟩ := obind h
    obtain rfl : z = x := by simpa using h
    obtain ⟨v1, e1, rfl⟩ := omap h1
    obtain ⟨v2, e2, rfl⟩ := omap h2
    obtain ⟨v3, e3, rfl⟩ := omap h3
    have g1 := hN t1 (by simp) v1 e1
    have g2 := hN t2 (by simp) v2 e2
    have g3 := hN t3 (by simp) v3 e3
    exact ⟨by simp [Form.wr, Ins.getN, Ins.setN, ins0, g1, g2, g3], rfl, .inl rfl⟩
  · rw [e] at hl h ⊢
    obtain ⟨t1, t2, rfl⟩ : ∃ t1 t2, ts = [t1, t2] := by
      rcases ts with _ | ⟨t1, _ | ⟨t2, _ | ⟨t3, ts⟩⟩⟩ <;> simp at hl; exact ⟨t1, t2, rfl⟩
    simp only [foldF] at h
    obtain ⟨y, h1, h⟩ := obind h
    obtain ⟨z, h2, h⟩ := obind h
    obtain rfl : z = x := by simpa using h
    obtain ⟨v1, e1, rfl⟩ := omap h1
    obtain ⟨v2, e2, rfl⟩ := omap h2
    have g1 := hN t1 (by simp) v1 e1
    have g2 := hD t2 (by simp) v2 e2
    exact ⟨by simp [Form.wr, Ins.getN, Ins.setN, ins0, g1, g2], rfl, .inl rfl⟩
theorem right_k {x : Ins} {i n : Int} (h : right x i n = true) : ∃ k : Nat, k < 6 ∧ x.op = k := by
  obtain ⟨_, hc⟩ := right_cases h
  rcases hc with h | h | h | h
  · exact ⟨0, by omega, h.1⟩
  · rcases h.1 with e | e | e
    · exact ⟨1, by omega, e⟩
    · exact ⟨3, by omega, e⟩
    · exact ⟨4, by omega, e⟩
  · exact ⟨2, by omega, h.1⟩
  · exact ⟨5, by omega, h.1⟩
theorem form_fwd (F : Form) {k : Nat} {x : Ins} {i n : Int} (h : right x i n = true) (hi0 : 0 ≤ i) (hi : i ≤ 4000) (hn : n ≤ 4000) (hk : x.op = k)
    (hN : ∀ v : Nat, v < 32 → F.N (F.n v) = some (v : Int)) (hD : ∀ v : Int, -4000 ≤ v → v ≤ 4000 → F.D (F.d v) = some v) :
    foldF F.rd (fldsOf k) ((fldsOf k).map (F.wr x)) (ins0 k) = some x := by
  obtain ⟨ha, hc⟩ := right_cases h
  obtain ⟨a, hra, hla⟩ := reg_nat ha
  obtain ⟨op, a0, b, c, t⟩ := x
  simp only at hra hc hk; subst hra
  have ea := hN a (by omega)
  rcases hc with ⟨rfl, rfl, rfl, hv⟩ | ⟨ho, hb, rfl, rfl⟩ | ⟨rfl, hb, hc, rfl⟩ | ⟨rfl, rfl, rfl, hb1, hb2⟩
  · obtain rfl : k = 0 := by omega
    simp [fldsOf, foldF, Form.rd, Form.wr, Ins.getN, Ins.setN, ins0, ea, hv]
  · obtain ⟨b, rfl, hlb⟩ := reg_nat hb
    have eb := hN b (by omega)
    have e : fldsOf k = [.reg 1, .reg 2] := by
      have : k = 1 ∨ k = 3 ∨ k = 4 := by omega
      rcases this with rfl | rfl | rfl <;> rfl
    rw [e]
    simp [foldF, Form.rd, Form.wr, Ins.getN, Ins.setN, ins0, ea, eb, hk]
  · obtain ⟨b, rfl, hlb⟩ := reg_nat hb
    obtain ⟨c, rfl, hlc⟩ := reg_nat hc
    have eb := hN b (by omega)
    have ec := hN c (by omega)
    obtain rfl : k = 2 := by omega
    simp [fldsOf, foldF, Form.rd, Form.wr, Ins.getN, Ins.setN, ins0, ea, eb, ec]
  · obtain rfl : k = 5 := by omega
    have eb := hD b (by omega) (by omega)
    simp [fldsOf, foldF, Form.rd, Form.wr, Ins.getN, Ins.setN, ins0, ea, eb]
end Go.Proofs.YtmhoacnbmbhcjaaGreatDoor

namespace Go.Proofs.YtmhoacnbmbhcjaaGreatDoor
open Go.RowKit Pl

theorem rdAll_sound {rd : List UInt8 → Option Ins} {wr : Ins → List UInt8} : ∀ {ls : List (List UInt8)} {ps : List Ins}, (∀ s ∈ ls, ∀ x, rd s = some x → wr x = s) → rdAll rd ls = some ps → ps.map wr = ls
  | [], ps, _, h => by simp only [rdAll, Option.some.injEq] at h; rw [← h]; rfl
  | s :: ls, ps, hs, h => by
    rw [rdAll] at h
    obtain ⟨x, h1, h⟩ := obind h
    obtain ⟨xs, h2, rfl⟩ := omap h
    rw [List.map_cons, hs s (by simp) x h1, rdAll_sound (fun t ht => hs t (List.mem_cons_of_mem _ ht)) h2]
theorem rdAll_complete {rd : List UInt8 → Option Ins} {wr : Ins → List UInt8} : ∀ {ps : List Ins}, (∀ x ∈ ps, rd (wr x) = some x) → rdAll rd (ps.map wr) = some ps
  | [], _ => rfl
  | x :: ps, h => by
    rw [List.map_cons, rdAll, h x (by simp), rdAll_complete (fun y hy => h y (List.mem_cons_of_mem _ hy))]; rfl
theorem dnum_num {t : List UInt8} {v : Int} (hv : vld t = true) (h : DNum t = some v) : num v.toNat = t := by
  unfold DNum at h
  split at h
  · rename_i ha; rw [← Option.some.inj h]; exact num_of hv ha
  · cases h
theorem dd_cd {t : List UInt8} {v : Int} (hv : vld t = true) (h : dd t = some v) : cd v = t := by
  unfold dd at h
  split at h
  · cases h
  · rename_i h0
    have ht := (vld_hd hv).2
    split at h
    · rename_i h1
      split at h
      · rename_i ha
        rw [← Option.some.inj h]
        have := val_nonneg ha
        rw [cd, if_neg (by omega), num_of ht ha]
        have := pr_hd_tl hv h0
        rw [h1] at this; exact this
      · cases h
    · split at h
      · rename_i h1
        split at h
        · rename_i ha
          rw [← Option.some.inj h, cd, if_pos (by omega), Int.neg_neg, num_of ht ha.1]
          have := pr_hd_tl hv h0
          rw [h1] at this; exact this
        · cases h
      · cases h
theorem dd_of_cd {v : Int} (h1 : -4000 ≤ v) (h2 : v ≤ 4000) : dd (cd v) = some v := by
  have w0 : vld [48] = true := by decide
  have w1 : vld [49, 48, 48] = true := by decide
  unfold cd
  by_cases h : v < 0
  · rw [if_pos h]
    have e : pr [49, 48, 48] (num (-v).toNat) ≠ [48] := by simp [pr]
    have hv : 0 < val (num (-v).toNat) := by rw [num_val]; omega
    simp only [dd, if_neg e, hd_pr w1, tl_pr w1, num_alt, hv, and_self, if_true]
    rw [if_neg (by decide), num_val]; congr 1; omega
  · rw [if_neg h]
    have e : pr [48] (num v.toNat) ≠ [48] := by simp [pr]
    simp only [dd, if_neg e, hd_pr w0, tl_pr w0, num_alt, if_true]
    rw [num_val]; congr 1; omega
theorem nest_code {x : Ins} {k : Nat} (hk : k < 6) (ho : x.op = k) : nestT (treesOf x k) = codeOf x := by
  obtain ⟨op, a, b, c, t⟩ := x
  simp only at ho; subst ho
  have hk6 : k = 0 ∨ k = 1 ∨ k = 2 ∨ k = 3 ∨ k = 4 ∨ k = 5 := by omega
  rcases hk6 with rfl | rfl | rfl | rfl | rfl | rfl
  · simp [treesOf, fldsOf, nestT, codeOf, body, Fld.cod, Ins.getN]
  · simp [treesOf, fldsOf, nestT, codeOf, body, Fld.cod, Ins.getN]
  · simp [treesOf, fldsOf, nestT, codeOf, body, Fld.cod, Ins.getN]
  · simp [treesOf, fldsOf, nestT, codeOf, body, Fld.cod, Ins.getN]
  · simp [treesOf, fldsOf, nestT, codeOf, body, Fld.cod, Ins.getN]
  · by_cases h : b < 0 <;> simp [treesOf, fldsOf, nestT, codeOf, body, Fld.cod, Ins.getN, cd, h]
theorem treesOf_nest (x : Ins) (k : Nat) : nestT (treesOf x k) = pr (num k) (nestT ((fldsOf k).map (Fld.cod x))) := by
  have := flds_pos k
  unfold treesOf
  cases h : (fldsOf k).map (Fld.cod x) with
  | nil => rw [List.map_eq_nil_iff] at h; rw [h] at this; simp at this
  | cons y l => rw [nestT]; intro e; cases e
theorem decK_sound {k : Nat} {b : List UInt8} {x : Ins} (hk : k < 6) (hv : vld b = true) (h : decK k b = some x) : codeOf x = pr (num k) b ∧ x.op = k ∧ x.tree.length ≤ 2000000 := by
  unfold decK at h
  obtain ⟨ts, h1, h2⟩ := obind h
  have hl := unn_len h1
  have hp := flds_pos k
  have hvs := unn_vld hv h1
  rw [cod_rd] at h2
  obtain ⟨e1, e2, e3⟩ := form_inv codF hk (by omega) (fun t ht v => dnum_num (hvs t ht)) (fun t ht v => dd_cd (hvs t ht)) h2
  refine ⟨?_, e2, ?_⟩
  · rw [← nest_code hk e2, treesOf_nest, cod_wr, e1, unn_nest hv h1]
  · rcases e3 with e | e
    · rw [e]; simp
    · exact (vld_iff.1 (hvs _ e)).1
theorem decM_sound {s : List UInt8} {x : Ins} (hv : vld s = true) (h : decM s = some x) : codeOf x = s ∧ x.tree.length ≤ 2000000 := by
  unfold decM at h
  split at h
  · cases h
  · rename_i h0
    split at h
    · rename_i ha
      split at h
      · rename_i h6
        have hn := val_nonneg ha
        obtain ⟨e1, _, e3⟩ := decK_sound (by omega) (vld_hd hv).2 h
        rw [num_of (vld_hd hv).1 ha] at e1
        exact ⟨by rw [e1, pr_hd_tl hv h0], e3⟩
      · cases h
    · cases h
theorem cods_vld {x : Ins} {i n : Int} {k : Nat} (h : right x i n = true) (hi0 : 0 ≤ i) (hi : i ≤ 4000) (hn : n ≤ 4000) (ho : x.op = k) : ∀ f ∈ fldsOf k, vld (f.cod x) = true := by
  obtain ⟨ha, hc⟩ := right_cases h
  obtain ⟨a, hra, hla⟩ := reg_nat ha
  obtain ⟨op, a0, b, c, t⟩ := x
  simp only at hra hc ho; subst hra
  have va := num_vld (n := a) (by omega)
  intro f hf
  rcases hc with ⟨rfl, rfl, rfl, hv⟩ | ⟨ho2, hb, rfl, rfl⟩ | ⟨rfl, hb, hc, rfl⟩ | ⟨rfl, rfl, rfl, hb1, hb2⟩
  · obtain rfl : k = 0 := by omega
    simp [fldsOf] at hf
    rcases hf with rfl | rfl
    · simpa [Fld.cod, Ins.getN] using va
    · exact hv
  · obtain ⟨b, rfl, hlb⟩ := reg_nat hb
    have vb := num_vld (n := b) (by omega)
    have e : fldsOf k = [.reg 1, .reg 2] := by
      have : k = 1 ∨ k = 3 ∨ k = 4 := by omega
      rcases this with rfl | rfl | rfl <;> rfl
    rw [e] at hf
    simp at hf
    rcases hf with rfl | rfl
    · simpa [Fld.cod, Ins.getN] using va
    · simpa [Fld.cod, Ins.getN] using vb
  · obtain ⟨b, rfl, hlb⟩ := reg_nat hb
    obtain ⟨c, rfl, hlc⟩ := reg_nat hc
    have vb := num_vld (n := b) (by omega)
    have vc := num_vld (n := c) (by omega)
    obtain rfl : k = 2 := by omega
    simp [fldsOf] at hf
    rcases hf with rfl | rfl | rfl
    · simpa [Fld.cod, Ins.getN] using va
    · simpa [Fld.cod, Ins.getN] using vb
    · simpa [Fld.cod, Ins.getN] using vc
  · obtain rfl : k = 5 := by omega
    simp [fldsOf] at hf
    rcases hf with rfl | rfl
    · simpa [Fld.cod, Ins.getN] using va
    · simp only [Fld.cod, cd]
      split
      · exact vld_pr (by decide) (num_vld (by omega)) (by rw [pr_len, num_len]; simp; omega)
      · exact vld_pr (by decide) (num_vld (by omega)) (by rw [pr_len, num_len]; simp; omega)
theorem decM_complete {x : Ins} {i n : Int} (h : right x i n = true) (hi0 : 0 ≤ i) (hi : i ≤ 4000) (hn : n ≤ 4000) : decM (codeOf x) = some x := by
  obtain ⟨k, hk, ho⟩ := right_k h
  have hvs := cods_vld h hi0 hi hn ho
  rw [← nest_code hk ho, treesOf_nest]
  have hkv := num_vld (n := k) (by omega)
  have e0 : pr (num k) (nestT ((fldsOf k).map (Fld.cod x))) ≠ [48] := by simp [pr]
  have hp := flds_pos k
  unfold decM
  rw [if_neg e0, hd_pr hkv, tl_pr hkv, num_alt, if_pos rfl, num_val, if_pos (by omega), Int.toNat_natCast]
  unfold decK
  rw [nest_unn _ ((fldsOf k).length - 1) (by rw [List.length_map]; omega) (fun y hy => by obtain ⟨f, hf, rfl⟩ := List.mem_map.1 hy; exact hvs f hf)]
  rw [Option.bind_some, cod_rd, cod_wr]
  exact form_fwd codF h hi0 hi hn ho (fun v _ => by simp [codF, DNum, num_alt, num_val]) (fun v h1 h2 => dd_of_cd h1 h2)
end Go.Proofs.YtmhoacnbmbhcjaaGreatDoor

namespace Go.Proofs.YtmhoacnbmbhcjaaGreatDoor
open Go.RowKit Pl

theorem nmIx_is {l : List UInt8} (h : nmIx l < 6) : nms.getD (nmIx l) [] = l := by
  unfold nmIx at h ⊢
  repeat' split
  all_goals first | assumption | skip
  simp_all
theorem nms_ix {k : Nat} (h : k < 6) : nmIx (nms.getD k []) = k := by
  have hk6 : k = 0 ∨ k = 1 ∨ k = 2 ∨ k = 3 ∨ k = 4 ∨ k = 5 := by omega
  rcases hk6 with rfl | rfl | rfl | rfl | rfl | rfl <;> decide
theorem nms_free {k : Nat} (h : k < 6) : (32 : UInt8) ∉ nms.getD k [] ∧ (59 : UInt8) ∉ nms.getD k [] := by
  have hk6 : k = 0 ∨ k = 1 ∨ k = 2 ∨ k = 3 ∨ k = 4 ∨ k = 5 := by omega
  rcases hk6 with rfl | rfl | rfl | rfl | rfl | rfl <;> decide
theorem text_textM {x : Ins} {k : Nat} (hk : k < 6) (ho : x.op = k) : textM x k = textOf x := by
  obtain ⟨op, a, b, c, t⟩ := x
  simp only at ho; subst ho
  have hk6 : k = 0 ∨ k = 1 ∨ k = 2 ∨ k = 3 ∨ k = 4 ∨ k = 5 := by omega
  rcases hk6 with rfl | rfl | rfl | rfl | rfl | rfl <;>
    simp [textM, wordsOf, fldsOf, textOf, nm, Fld.txt, Ins.getN, join_two, Lib.join_one, itoa_dint]
theorem textM_cons (x : Ins) (k : Nat) : textM x k = nms.getD k [] ++ [32] ++ Lib.join ((fldsOf k).map (Fld.txt x)) [32] := by
  have := flds_pos k
  unfold textM wordsOf
  cases h : (fldsOf k).map (Fld.txt x) with
  | nil => rw [List.map_eq_nil_iff] at h; rw [h] at this; simp at this
  | cons y l => rw [join_two]
theorem pn_itoa {t : List UInt8} {v : Int} (h : pn t = some v) : Lib.itoa v = t := by rw [itoa_dint]; exact pn_some h
theorem flds_ge2 (k : Nat) : 2 ≤ (fldsOf k).length := by
  unfold fldsOf
  repeat' split
  all_goals simp
theorem parM_sound {s : List UInt8} {x : Ins} (h : parM s = some x) : textOf x = s ∧ x.tree.length ≤ s.length := by
  unfold parM at h
  split at h
  · rename_i h6
    obtain ⟨k, hk⟩ : ∃ k, k = nmIx (Lib.cut s [32]).1 := ⟨_, rfl⟩
    have hn := nmIx_is h6
    rw [← hk] at h h6 hn
    unfold parW at h
    split at h
    · rename_i hl
      have h2 := flds_ge2 k
      rw [txt_rd] at h
      obtain ⟨e1, e2, e3⟩ := form_inv txtF h6 hl (fun t _ v => pn_itoa) (fun t _ v => pn_itoa) h
      have hs : s = (Lib.cut s [32]).1 ++ [32] ++ (Lib.cut s [32]).2.1 := by
        rcases cut_cases s [32] with hc | ⟨a, b, hc, e⟩
        · rw [hc] at hl
          have : Lib.splitN ([] : List UInt8) [32] ((fldsOf k).length + 1) = [[]] := by
            have hj := join_splitN ([] : List UInt8) [32] ((fldsOf k).length + 1)
            rcases hw : Lib.splitN ([] : List UInt8) [32] ((fldsOf k).length + 1) with _ | ⟨y, _ | ⟨z, r⟩⟩
            · rw [hw] at hl; simp at hl; omega
            · rw [hw, Lib.join_one] at hj; rw [hj]
            · rw [hw, join_two] at hj; simp at hj
          rw [this] at hl
          simp at hl; omega
        · rw [hc]; exact e
      refine ⟨?_, ?_⟩
      · rw [← text_textM h6 e2, textM_cons, txt_wr, e1, join_splitN, hn]; exact hs.symm
      · rcases e3 with e | e
        · rw [e]; simp
        · exact Nat.le_trans (split_le _ _ _ _ e) (cut_le s [32]).2
    · cases h
  · cases h
theorem vld_bits : ∀ (k : Nat) {l : List UInt8}, l.length ≤ k → vld l = true → ∀ c ∈ l, c = 48 ∨ c = 49 := by
  intro k
  induction k with
  | zero => intro l hl hv c hc; have : l = [] := List.eq_nil_of_length_eq_zero (by omega); subst this; cases hc
  | succ k ih =>
    intro l hl hv c hc
    by_cases h0 : l = [48]
    · rw [h0] at hc; simp at hc; exact .inl hc
    · obtain ⟨he, h1, h2⟩ := cons_hd_tl hv h0
      have hle := congrArg List.length he
      simp at hle
      rw [← he] at hc
      rcases List.mem_cons.1 hc with rfl | hc
      · exact .inr rfl
      · rcases List.mem_append.1 hc with hc | hc
        · exact ih (by omega) h1 c hc
        · exact ih (by omega) h2 c hc
theorem vld_free {l : List UInt8} (h : vld l = true) : (32 : UInt8) ∉ l ∧ (59 : UInt8) ∉ l :=
  ⟨fun hc => by rcases vld_bits l.length (Nat.le_refl _) h _ hc with e | e <;> exact absurd e (by decide), fun hc => by rcases vld_bits l.length (Nat.le_refl _) h _ hc with e | e <;> exact absurd e (by decide)⟩
theorem dint_free (n : Int) : (32 : UInt8) ∉ dint n ∧ (59 : UInt8) ∉ dint n := by
  have key : ∀ c : UInt8, c ∈ dint n → c.toNat = 45 ∨ (48 ≤ c.toNat ∧ c.toNat ≤ 57) := by
    intro c hc
    unfold dint at hc
    split at hc
    · rcases List.mem_cons.1 hc with rfl | hc
      · exact .inl rfl
      · exact .inr (allD_mem (dg_all _) c hc)
    · exact .inr (allD_mem (dg_all _) c hc)
  exact ⟨fun h => by have := key _ h; simp at this, fun h => by have := key _ h; simp at this⟩
theorem txts_free {x : Ins} {i n : Int} {k : Nat} (h : right x i n = true) (ho : x.op = k) : ∀ w ∈ (fldsOf k).map (Fld.txt x), (32 : UInt8) ∉ w ∧ (59 : UInt8) ∉ w := by
  intro w hw
  obtain ⟨f, hf, rfl⟩ := List.mem_map.1 hw
  cases f with
  | reg j => simp only [Fld.txt, itoa_dint]; exact dint_free _
  | dist => simp only [Fld.txt, itoa_dint]; exact dint_free _
  | con =>
    have hk0 : k = 0 := by
      unfold fldsOf at hf
      split at hf
      · assumption
      · split at hf
        · simp at hf
        · split at hf <;> simp at hf
    obtain ⟨_, hc⟩ := right_cases h
    rcases hc with hc | hc | hc | hc
    · exact vld_free hc.2.2.2
    · omega
    · omega
    · omega
theorem parM_complete {x : Ins} {i n : Int} (h : right x i n = true) (hi0 : 0 ≤ i) (hi : i ≤ 4000) (hn : n ≤ 4000) : parM (textOf x) = some x := by
  obtain ⟨k, hk, ho⟩ := right_k h
  have hfr := txts_free h ho
  have h2 := flds_ge2 k
  rw [← text_textM hk ho, textM_cons]
  have hcut := cut_hit (c := 32) (r := []) (t := Lib.join ((fldsOf k).map (Fld.txt x)) [32]) (nms_free hk).1
  unfold parM
  rw [hcut]
  simp only
  rw [nms_ix hk, if_pos hk, splitN_join _ _ (by intro e; rw [List.map_eq_nil_iff] at e; rw [e] at h2; simp at h2) (fun w hw => (hfr w hw).1) (by simp)]
  unfold parW
  rw [if_pos (by simp), txt_rd, txt_wr]
  exact form_fwd txtF h hi0 hi hn ho (fun v hv => by simp only [txtF, itoa_dint]; exact pn_dint (by omega) (by omega)) (fun v h1 h2 => by simp only [txtF, itoa_dint]; exact pn_dint (by omega) (by omega))
theorem textOf_free {x : Ins} {i n : Int} (h : right x i n = true) : (59 : UInt8) ∉ textOf x := by
  obtain ⟨k, hk, ho⟩ := right_k h
  have hfr := txts_free h ho
  rw [← text_textM hk ho, textM_cons]
  have key : ∀ (ws : List (List UInt8)), (∀ w ∈ ws, (59 : UInt8) ∉ w) → (59 : UInt8) ∉ Lib.join ws [32] := by
    intro ws
    induction ws with
    | nil => intro _ h; simp [Lib.join_nil] at h
    | cons y r ih =>
      intro hw hm
      cases r with
      | nil => rw [Lib.join_one] at hm; exact hw y (by simp) hm
      | cons z r =>
        rw [join_two] at hm
        simp only [List.mem_append] at hm
        rcases hm with (hm | hm) | hm
        · exact hw y (by simp) hm
        · simp at hm
        · exact ih (fun w hw' => hw w (List.mem_cons_of_mem _ hw')) hm
  intro hm
  simp only [List.mem_append] at hm
  rcases hm with (hm | hm) | hm
  · exact (nms_free hk).2 hm
  · simp at hm
  · exact key _ (fun w hw => (hfr w hw).2) hm
theorem join_snoc (ws : List (List UInt8)) (x : List UInt8) (sep : List UInt8) : Lib.join (ws ++ [x]) sep = Lib.join ws sep ++ (if 0 < ws.length then sep else []) ++ x := by
  induction ws with
  | nil => simp [Lib.join_one, Lib.join_nil]
  | cons y r ih =>
    cases r with
    | nil => rw [List.cons_append, List.nil_append, join_two, Lib.join_one, Lib.join_one]; simp
    | cons z r => rw [List.cons_append, List.cons_append, join_two, ← List.cons_append, ih, join_two]; simp
theorem txtTo_join (ps : List Ins) : ∀ k, k ≤ ps.length → txtTo ps k = Lib.join ((ps.take k).map textOf) [59, 32] := by
  intro k
  induction k with
  | zero => intro _; simp [txtTo, Lib.join_nil]
  | succ k ih =>
    intro h
    obtain ⟨x, hx⟩ := get_at (ps := ps) (k := k) (by omega)
    rw [txtTo_succ hx, ih (by omega), List.take_add_one, hx, Option.toList_some, List.map_append, List.map_cons, List.map_nil, join_snoc]
    have : (List.map textOf (List.take k ps)).length = k := by simp; omega
    rw [this]
theorem txt_join (ps : List Ins) : txt ps = Lib.join (ps.map textOf) [59, 32] := by
  rw [txt, txtTo_join ps ps.length (Nat.le_refl _), List.take_length]
end Go.Proofs.YtmhoacnbmbhcjaaGreatDoor

namespace Go.Proofs.YtmhoacnbmbhcjaaGreatDoor
open Go.RowKit Pl

/-- a valid program, or none and an error -/
def PRes (w : World) (r : Option (List Ins)) (n : Int) (e : Ending) (w' : World) : Prop :=
  ((∃ ps v, r = some ps ∧ PValid ps ∧ e = .returned (.tuple #[v, .int .i64 0]) ∧ ArgP w' v ps) ∨ ((∀ ps, r = some ps → ¬ PValid ps) ∧ e = .returned (.tuple #[.slice none 0 0, .int .i64 n]))) ∧ Below w.heap.size w w'
def rdP (rd : List UInt8 → Option Ins) (ls : List (List UInt8)) : Option (List Ins) := if 4000 < ls.length then none else rdAll rd ls
theorem ArgS.strs {w : World} {v : Value} {ls : List (List UInt8)} (h : ArgS w v ls) : (ls = [] ∧ ∃ a cap, v = .slice a 0 cap) ∨ StrsIn w v ls := by
  rcases h with h | ⟨_, b, off, cap, rfl, h⟩
  · exact .inl h
  · exact .inr ⟨b, off, cap, rfl, h.1, h.2⟩

set_option maxHeartbeats 3200000 in
set_option maxRecDepth 100000 in
theorem PDecode_no (s : ByteArray) (w : World) (hs : s.size ≤ 281474976710656) (hv : vld s.data.toList = false) :
    Calls Tryz.prog 46 #[.string s] w fun e w' => e = .returned (.tuple #[.slice none 0 0, .int .i64 1]) ∧ Below w.heap.size w w' := by
  have HI := Lib.hid (Items_no s w hs hv)
  clear hs hv
  go_enter Tryz.func46, Tryz.ntmps46
  go_wp2_with fail
  refine HI.out.mono ?_
  rintro e w1 ⟨rfl, h1⟩
  go_wp2_with fail
  go_ret2
  exact ⟨rfl, h1⟩
set_option maxHeartbeats 3200000 in
set_option maxRecDepth 100000 in
theorem PDecode_yes (s : ByteArray) (w : World) (hv : vld s.data.toList = true) (hE : Env w) :
    Calls Tryz.prog 46 #[.string s] w (PRes w (rdP decM (itemsOf s.data.toList)) 4) := by
  have hmf : ∀ (fn : Fn) (first cap : Array Value) (w : World), (Instr.makeFunc fn first cap).run Tryz.prog w = .ok (.func fn first cap) w := fun _ _ _ _ => rfl
  have HI := Lib.hid (Items_arg s w hv)
  have HV := Lib.hid (items_valid hv)
  have HE := Lib.hid hE
  generalize hits : itemsOf s.data.toList = its at *
  clear hv hE hits
  go_enter Tryz.func46, Tryz.ntmps46
  go_wp2_with fail
  refine HI.out.mono ?_
  rintro e w1 ⟨v, rfl, ha, h1⟩
  have HA := Lib.hid ha
  clear ha
  go_wp2_with fail
  refine (operations_good _).mono ?_
  rintro e w2 ⟨t, rfl, hT, h2⟩
  have hb2 := h1.trans (h2.mono h1.size)
  have HT := Lib.hid hT
  have HA2 := Lib.hid (HA.out.below h2)
  clear hT
  go_wp2_with fail
  refine (readProgram_any 100 t decM its v _ HA2.out.strs (fun s hs x hx => by have := (decM_sound (HV.out s hs) hx).2; omega) (fun _ _ => rfl) (fun W s hs hW => mdecode t s W (HT.out.below hW) (HV.out s hs) ((HE.out.below hb2).below hW))).mono ?_
  intro e w3 h
  have HR : Hid (RPPost w2 (rdP decM its) e w3) := Lib.hid h
  clear h
  cases hr : rdP decM its with
  | none =>
    rw [hr] at HR
    have HRE := Lib.hid hr
    clear hr
    obtain ⟨rfl, h3⟩ := HR.out
    clear HR
    go_wp2_with fail
    go_ret2
    exact ⟨.inr ⟨fun ps h => (by rw [HRE.out] at h; cases h), rfl⟩, hb2.trans (h3.mono hb2.size)⟩
  | some ps =>
    rw [hr] at HR
    have HRE := Lib.hid hr
    clear hr
    obtain ⟨v3, q, rfl, hq, hA, h3⟩ := HR.out
    clear HR
    have HA := Lib.hid hA
    have HQ := Lib.hid hq
    clear hA hq
    cases q with
    | true =>
      go_wp2_with fail
      go_ret2
      exact ⟨.inl ⟨ps, v3, HRE.out, HQ.out.1 trivial, rfl, HA.out⟩, hb2.trans (h3.mono hb2.size)⟩
    | false =>
      go_wp2_with fail
      go_ret2
      exact ⟨.inr ⟨fun qs h hv => by rw [HRE.out] at h; cases h; exact absurd (HQ.out.2 hv) (by simp), rfl⟩, hb2.trans (h3.mono hb2.size)⟩
end Go.Proofs.YtmhoacnbmbhcjaaGreatDoor

namespace Go.Proofs.YtmhoacnbmbhcjaaGreatDoor
open Go.RowKit Pl

set_option maxHeartbeats 3200000 in
set_option maxRecDepth 100000 in
theorem PParse_long (s : List UInt8) (w : World) (hs : 4000000 < s.length) (hs2 : s.length ≤ 281474976710656) :
    Calls Tryz.prog 51 #[.string (S s)] w fun e w' => e = .returned (.tuple #[.slice none 0 0, .int .i64 5]) ∧ Below w.heap.size w w' := by
  have h1 : (4000000 : Int) < (s.length : Int) := by omega
  have hz : (S s).size = s.length := S_size s
  go_enter Tryz.func51, Tryz.ntmps51
  go_wp2
  go_ret2
  exact ⟨rfl, Below.refl _ _⟩
set_option maxHeartbeats 3200000 in
set_option maxRecDepth 100000 in
theorem PParse_nil (w : World) :
    Calls Tryz.prog 51 #[.string (S [])] w fun e w' => e = .returned (.tuple #[.slice none 0 0, .int .i64 0]) ∧ Below w.heap.size w w' := by
  go_enter Tryz.func51, Tryz.ntmps51
  go_wp2
  go_ret2
  exact ⟨rfl, Below.refl _ _⟩
set_option maxHeartbeats 3200000 in
set_option maxRecDepth 100000 in
theorem PParse_some (s : List UInt8) (w : World) (h0 : s ≠ []) (hs : s.length ≤ 4000000) (hE : Env w) :
    Calls Tryz.prog 51 #[.string (S s)] w (PRes w (rdP parM (Lib.splitN s [59, 32] 4001)) 5) := by
  have hmf : ∀ (fn : Fn) (first cap : Array Value) (w : World), (Instr.makeFunc fn first cap).run Tryz.prog w = .ok (.func fn first cap) w := fun _ _ _ _ => rfl
  have HS := Lib.hid (fun W hW => SplitN_l s [59, 32] 4001 W hs (by simp) (by omega) (by omega) hW)
  have HL := Lib.hid (fun y hy => Nat.le_trans (split_le s [59, 32] 4001 y hy) hs)
  have HE := Lib.hid hE
  have hz : (S s).size = s.length := S_size s
  have hne : (s == []) = false := by cases s with
    | nil => exact absurd rfl h0
    | cons a l => rfl
  generalize hits : Lib.splitN s [59, 32] 4001 = its at *
  clear hE hits h0
  go_enter Tryz.func51, Tryz.ntmps51
  go_wp2_with fail
  refine (operations_good _).mono ?_
  rintro e w2 ⟨t, rfl, hT, h2⟩
  have HT := Lib.hid hT
  have HE2 := Lib.hid (HE.out.below h2)
  clear hT
  go_wp2_with fail
  refine (HS.out _ HE2.out).mono ?_
  rintro e w3 ⟨v, rfl, hown, h3⟩
  have HA := Lib.hid (arg_own hown)
  have hb3 := h2.trans (h3.mono h2.size)
  clear hown
  go_wp2_with fail
  refine (readProgram_any 115 t parM its v _ HA.out.strs (fun s hs x hx => by have := (parM_sound hx).2; have := HL.out s hs; omega) (fun _ _ => rfl) (fun W s hs hW => mparse t s W ((HT.out.below h3).below hW) (HL.out s hs) ((HE2.out.below h3).below hW))).mono ?_
  intro e w4 h
  have HR : Hid (RPPost w3 (rdP parM its) e w4) := Lib.hid h
  clear h
  cases hr : rdP parM its with
  | none =>
    rw [hr] at HR
    have HRE := Lib.hid hr
    clear hr
    obtain ⟨rfl, h4⟩ := HR.out
    clear HR
    go_wp2_with fail
    go_ret2
    exact ⟨.inr ⟨fun ps h => (by rw [HRE.out] at h; cases h), rfl⟩, hb3.trans (h4.mono hb3.size)⟩
  | some ps =>
    rw [hr] at HR
    have HRE := Lib.hid hr
    clear hr
    obtain ⟨v3, q, rfl, hq, hA, h4⟩ := HR.out
    clear HR
    have HA := Lib.hid hA
    have HQ := Lib.hid hq
    clear hA hq
    cases q with
    | true =>
      go_wp2_with fail
      go_ret2
      exact ⟨.inl ⟨ps, v3, HRE.out, HQ.out.1 trivial, rfl, HA.out⟩, hb3.trans (h4.mono hb3.size)⟩
    | false =>
      go_wp2_with fail
      go_ret2
      exact ⟨.inr ⟨fun qs h hv => by rw [HRE.out] at h; cases h; exact absurd (HQ.out.2 hv) (by simp), rfl⟩, hb3.trans (h4.mono hb3.size)⟩
end Go.Proofs.YtmhoacnbmbhcjaaGreatDoor

namespace Go.Proofs.YtmhoacnbmbhcjaaGreatDoor
open Go.RowKit Pl

theorem right_fine {x : Ins} {i n : Int} {k : Nat} (h : right x i n = true) (hi0 : 0 ≤ i) (hi : i ≤ 4000) (hn : n ≤ 4000) (ho : x.op = k) : Fine x ∧ ∀ f ∈ fldsOf k, f.fits x := by
  obtain ⟨ha, hc⟩ := right_cases h
  obtain ⟨a, hra, hla⟩ := reg_nat ha
  obtain ⟨op, a0, b, c, t⟩ := x
  simp only at hra hc ho; subst hra
  rcases hc with ⟨rfl, rfl, rfl, hv⟩ | ⟨ho2, hb, rfl, rfl⟩ | ⟨rfl, hb, hc, rfl⟩ | ⟨rfl, rfl, rfl, hb1, hb2⟩
  · obtain rfl : k = 0 := by omega
    refine ⟨⟨by simp only; omega, by simp only; omega, by simp only; omega⟩, fun f hf => ?_⟩
    simp [fldsOf] at hf
    rcases hf with rfl | rfl <;> trivial
  · obtain ⟨b, rfl, hlb⟩ := reg_nat hb
    refine ⟨⟨by simp only; omega, by simp only; omega, by simp only; omega⟩, fun f hf => ?_⟩
    have e : fldsOf k = [.reg 1, .reg 2] := by
      have : k = 1 ∨ k = 3 ∨ k = 4 := by omega
      rcases this with rfl | rfl | rfl <;> rfl
    rw [e] at hf
    simp at hf
    rcases hf with rfl | rfl
    · trivial
    · simp only [Fld.fits]; omega
  · obtain ⟨b, rfl, hlb⟩ := reg_nat hb
    obtain ⟨c, rfl, hlc⟩ := reg_nat hc
    obtain rfl : k = 2 := by omega
    refine ⟨⟨by simp only; omega, by simp only; omega, by simp only; omega⟩, fun f hf => ?_⟩
    simp [fldsOf] at hf
    rcases hf with rfl | rfl | rfl
    · trivial
    · simp only [Fld.fits]; omega
    · trivial
  · obtain rfl : k = 5 := by omega
    refine ⟨⟨by simp only; omega, by simp only; omega, by simp only; omega⟩, fun f hf => ?_⟩
    simp [fldsOf] at hf
    rcases hf with rfl | rfl <;> trivial
def COne (x : Ins) (w : World) (e : Ending) (w' : World) : Prop :=
  (((codeOf x).length ≤ 2000000 ∧ e = .returned (.tuple #[.string (S (codeOf x)), .int .i64 0])) ∨ (2000000 < (codeOf x).length ∧ e = .returned (.tuple #[.string (S []), .int .i64 3]))) ∧ Below w.heap.size w w'
theorem mcode_x (t : Nat) (x : Ins) (i n : Int) (w : World) (hT : TabGood w t) (h : right x i n = true) (hi0 : 0 ≤ i) (hi : i ≤ 4000) (hn : n ≤ 4000) :
    Calls Tryz.prog 94 #[.pointer (some ⟨t, 0, none⟩), .agg #[.int .i64 x.op, .int .i64 x.a, .int .i64 x.b, .int .i64 x.c, .string (S x.tree)]] w (COne x w) := by
  obtain ⟨k, hk, ho⟩ := right_k h
  obtain ⟨h1, h2⟩ := right_fine h hi0 hi hn ho
  have := mcode t k x w hT hk ho h1 h2 (cods_vld h hi0 hi hn ho)
  rw [nest_code hk ho] at this
  rw [ho]
  exact this
theorem List_big (w : World) (v : Value) (ls : List (List UInt8)) (h : ArgS w v ls) (hn : AllV ls) (hz : 2000000 < (enc ls).length) (hm : ls.length ≤ 281474976710656) :
    Calls Tryz.prog 95 #[v] w fun e w' => e = .returned (.tuple #[.string (S []), .int .i64 3]) ∧ Below w.heap.size w w' := by
  rcases h with ⟨rfl, a, cap, rfl⟩ | ⟨_, b, off, cap, rfl, hc⟩
  · exact absurd hz (by decide)
  · exact List_size w b off cap ls hc hm hn hz
def CRes (ps : List Ins) (w : World) (e : Ending) (w' : World) : Prop :=
  (((enc (codes ps)).length ≤ 2000000 ∧ e = .returned (.tuple #[.string (S (enc (codes ps))), .int .i64 0])) ∨ (2000000 < (enc (codes ps)).length ∧ e = .returned (.tuple #[.string (S []), .int .i64 3]))) ∧ Below w.heap.size w w'
theorem List_codes (w w0 : World) (v : Value) (ps : List Ins) (h : ArgS w v (codes ps)) (hn : AllV (codes ps)) (hm : ps.length ≤ 4000) (hb : Below w0.heap.size w0 w) :
    Calls Tryz.prog 95 #[v] w (CRes ps w0) := by
  have hl := codes_len ps
  rcases Nat.lt_or_ge 2000000 (enc (codes ps)).length with hz | hz
  · exact (List_big w v _ h hn hz (by omega)).mono fun e w' ⟨h1, h2⟩ => ⟨.inr ⟨hz, h1⟩, hb.trans (h2.mono hb.size)⟩
  · exact (List_ok w v _ h hn hz (by omega)).mono fun e w' ⟨h1, h2⟩ => ⟨.inl ⟨hz, h1⟩, hb.trans (h2.mono hb.size)⟩
theorem set_take {α : Type} (xs : List α) (k : Nat) (v : α) (h : k < xs.length) : (xs.set k v).take (k + 1) = xs.take k ++ [v] := by
  rw [List.take_add_one, List.getElem?_set_self h, Option.toList_some, List.take_set_of_le (Nat.le_refl k)]

end Go.Proofs.YtmhoacnbmbhcjaaGreatDoor

namespace Go.Proofs.YtmhoacnbmbhcjaaGreatDoor
open Go.RowKit Pl

set_option maxHeartbeats 1600000 in
set_option maxRecDepth 100000 in
theorem PCode_some (w : World) (b off cap : Nat) (ps : List Ins) (hc : ProgAt w b off ps) (h0 : 0 < ps.length) (hp : PValid ps) :
    Calls Tryz.prog 44 #[.slice (some ⟨b, off, none⟩) ps.length cap] w (CRes ps w) := by
  obtain ⟨i0, hi, hz0, hz1, hz2⟩ := info_parts Tryz.infoStr
  have hl := hp.1
  have HV := Lib.hid (CV_arg w (.slice (some ⟨b, off, none⟩) ps.length cap) ps true (.inr ⟨h0, b, off, cap, rfl, hc⟩) (by omega) (fun x hx => by
    obtain ⟨i, h2, _⟩ := hp.at x hx
    have := hp.2.1
    have := tree_le x hx
    omega) (by simp [hp]))
  have HC := Lib.hid hc; have HP := Lib.hid hp
  obtain ⟨n, hn⟩ : ∃ n, n = ps.length := ⟨_, rfl⟩
  rw [← hn] at hl h0 HV ⊢
  have HN := Lib.hid hn
  clear hc hp hn
  go_enter Tryz.func44, Tryz.ntmps44
  go_wp2_with fail
  refine HV.out.mono ?_
  rintro e w1 ⟨rfl, h1⟩
  go_wp2_with fail
  refine (operations_good _).mono ?_
  rintro e w2 ⟨t, rfl, hT, h2⟩
  have hb2 := h1.trans (h2.mono h1.size)
  have HT := Lib.hid hT
  clear hT HV
  go_wp2_with (at_make; refine wpList_make_full _ rfl _ _ 100 rfl w.heap.size 9 i0 (.string ⟨#[]⟩) 1 Tryz.underlying100 hi hz0 hz1 .i64 .i64 _ _ n rfl rfl rfl rfl (by rw [hz2]; omega) (by unfold maxLen; omega) hb2.size ?_)
  intro w3 hown hgrow
  have hb3 : Below w2.heap.size w2 w3 := (Below.refl _ _).grown hgrow (Nat.le_refl _) (by simp)
  obtain ⟨xs, HO⟩ : ∃ xs, Hid (w3.ownsRow w.heap.size 9 1 (.slice (some ⟨w2.heap.size, 0, none⟩) n n) n xs) := ⟨_, Lib.hid hown⟩
  obtain ⟨G, hG⟩ : ∃ G, G = w2.heap.size := ⟨_, rfl⟩
  rw [← hG] at HO ⊢
  have hs2 : w.heap.size ≤ G := by rw [hG]; exact hb2.size
  have HG := Lib.hid hG
  clear hG
  have hbw : b < w.heap.size := HC.out.1
  have HB3 := Lib.hid hb3
  have hb4 : Below w.heap.size w w3 := hb2.trans (hb3.mono hb2.size)
  clear hown hgrow hi hz0 hz1 hz2 hb3 hb2 h1 h2
  go_wp2
  go_loopw [19] (fun i wr => ∃ (k : Nat) (ys : List Value), k ≤ n ∧ i = .int .i64 k ∧ Hid (wr.ownsRow w.heap.size 9 1 (.slice (some ⟨G, 0, none⟩) n n) n ys) ∧ Hid (ys.take k = strsV (codes (ps.take k))) ∧ Hid (∀ x ∈ ps.take k, (codeOf x).length ≤ 2000000) ∧ Hid (Below w2.heap.size w2 wr) ∧ Below w.heap.size w wr) (fun i _ => n - (intOf i).toNat)
  case atStart => exact ⟨0, xs, Nat.zero_le _, rfl, HO, Lib.hid (by simp [strsV, codes]), Lib.hid (by simp), HB3, hb4⟩
  case round =>
    clear HO hb4 HB3
    obtain ⟨k, ys, hk, rfl, HO, HY, HL, HB, hb⟩ := hrel
    have hsz := hb.size
    by_cases hlt : k < n
    · have hk1 : (k : Int) < (n : Int) := by omega
      obtain ⟨x, hx⟩ := get_at (ps := ps) (k := k) (by have := HN.out; omega)
      obtain ⟨a0, a1, a2, a3, a4⟩ := HC.out.2 k x hx
      have k0 := (hb.cell (p := ⟨b, off + k * 5, none⟩) hbw).trans a0
      have k1 := (hb.cell (p := ⟨b, off + k * 5 + 1, none⟩) hbw).trans a1
      have k2 := (hb.cell (p := ⟨b, off + k * 5 + 2, none⟩) hbw).trans a2
      have k3 := (hb.cell (p := ⟨b, off + k * 5 + 3, none⟩) hbw).trans a3
      have k4 := (hb.cell (p := ⟨b, off + k * 5 + 4, none⟩) hbw).trans a4
      have HX := Lib.hid hx
      have HR : Hid (right x k ps.length = true) := Lib.hid (HP.out.2.2 k x hx)
      clear hx a0 a1 a2 a3 a4
      have hBx := HB.out.trans ((Below.refl wr.heap.size wr).alloc (Nat.le_refl _) (.cells #[.int .i64 x.op, .int .i64 x.a, .int .i64 x.b, .int .i64 x.c, .string (S x.tree)] 64) |>.mono HB.out.size)
      have hb5 : Below w.heap.size w (wr.alloc (.cells #[.int .i64 x.op, .int .i64 x.a, .int .i64 x.b, .int .i64 x.c, .string (S x.tree)] 64)) := hb.alloc hsz _
      have HBX := Lib.hid hBx
      have HO5 := Lib.hid (HO.out.alloc (.cells #[.int .i64 x.op, .int .i64 x.a, .int .i64 x.b, .int .i64 x.c, .string (S x.tree)] 64))
      clear hBx
      go_wp2_with fail
      refine (mcode_x t x k ps.length _ (HT.out.below HBX.out) HR.out (by omega) (by omega) (by have := HN.out; omega)).mono ?_
      rintro e w6 ⟨⟨hle, rfl⟩ | ⟨hle, rfl⟩, h6⟩
      · have hb6 := hb5.trans (h6.mono hb5.size)
        have own6 := own_keep HO5.out h6
        have c0 := own6.cellAt k (by omega)
        obtain ⟨u, hu⟩ : ∃ u, ys[k]? = some u := ⟨ys[k]'(by have := own6.1; omega), List.getElem?_eq_getElem _⟩
        rw [hu] at c0
        have f0 := own6.frozenAt k
        have HO7 := Lib.hid (own6.stored k (.string (S (codeOf x)))).1
        have HB7 := Lib.hid (hb6.setCell (p := ⟨G, k, none⟩) hs2 (.string (S (codeOf x))))
        have HBT := Lib.hid ((HBX.out.trans (h6.mono HBX.out.size)).setCell (p := ⟨G, k, none⟩) (Nat.le_of_eq HG.out.symm) (.string (S (codeOf x))))
        have HY7 : Hid ((ys.set k (.string (S (codeOf x)))).take (k + 1) = strsV (codes (ps.take (k + 1)))) := Lib.hid (by
          rw [set_take _ _ _ (by have := own6.1; omega), HY.out, codes_take HX.out, strsV_snoc])
        have HL7 : Hid (∀ y ∈ ps.take (k + 1), (codeOf y).length ≤ 2000000) := Lib.hid (fun y hy => by
          rw [List.take_add_one, HX.out, Option.toList_some, List.mem_append] at hy
          rcases hy with hy | hy
          · exact HL.out y hy
          · simp at hy; rw [hy]; exact hle)
        clear own6 hb6 hb5 hb h6 hle hu
        go_wp2_with fail
        go_roundw
        case rel => exact ⟨k + 1, _, by omega, by go_num, HO7, HY7, HL7, HBT, HB7.out⟩
        case measure => simp [intOf]; omega
      · have hb6 := hb5.trans (h6.mono hb5.size)
        have HF : Hid (2000000 < (enc (codes ps)).length) := Lib.hid (by
          have := enc_item (ls := codes ps) (codeOf x) (List.mem_map_of_mem (List.mem_of_getElem? HX.out))
          omega)
        clear hle h6 hb5 hb
        go_wp2_with fail
        go_ret2
        exact ⟨.inr ⟨HF.out, rfl⟩, hb6⟩
    · obtain rfl : k = n := by omega
      have hall : ps.take k = ps := List.take_of_length_le (by have := HN.out; omega)
      have HA : Hid (ArgS wr (.slice (some ⟨G, 0, none⟩) k k) (codes ps)) := Lib.hid (by
        have h := HO.out
        rw [show ys = strsV (codes ps) by rw [← hall, ← HY.out, List.take_of_length_le (by have := HO.out.1; omega)]] at h
        exact arg_own h)
      have HV : Hid (AllV (codes ps)) := Lib.hid (fun l hm => by
        obtain ⟨x, hx, rfl⟩ := List.mem_map.1 hm
        obtain ⟨i, h2, h3, h4⟩ := HP.out.at x hx
        exact vld_code h2 h3 h4 (by have := HP.out.1; omega) (HL.out x (by rw [hall]; exact hx)))
      have HB8 := Lib.hid hb
      clear hb
      go_wp2_with fail
      refine (List_codes _ w _ ps HA.out HV.out HP.out.1 HB8.out).mono ?_
      rintro e w9 ⟨⟨hle, rfl⟩ | ⟨hle, rfl⟩, h9⟩
      · have HLE := Lib.hid hle
        clear hle
        go_wp2_with fail
        go_ret2
        exact ⟨.inl ⟨HLE.out, rfl⟩, h9⟩
      · have HLE := Lib.hid hle
        clear hle
        go_wp2_with fail
        go_ret2
        exact ⟨.inr ⟨HLE.out, rfl⟩, h9⟩
end Go.Proofs.YtmhoacnbmbhcjaaGreatDoor

namespace Go.Proofs.YtmhoacnbmbhcjaaGreatDoor
open Go.RowKit Pl
def TRes (ps : List Ins) (w : World) (e : Ending) (w' : World) : Prop :=
  (((txt ps).length ≤ 4000000 ∧ e = .returned (.tuple #[.string (S (txt ps)), .int .i64 0])) ∨ (4000000 < (txt ps).length ∧ e = .returned (.tuple #[.string (S []), .int .i64 3]))) ∧ Below w.heap.size w w'
theorem texts_take {ps : List Ins} {k : Nat} {x : Ins} (h : ps[k]? = some x) : (ps.take (k + 1)).map textOf = (ps.take k).map textOf ++ [textOf x] := by
  rw [List.take_add_one, h, Option.toList_some, List.map_append]; rfl
theorem txt_len {ps : List Ins} (h : PValid ps) : (txt ps).length ≤ 30000000 := by
  have h1 := txtTo_len h.1 h.2.2 ps.length
  have h2 := treesTo_top (ps := ps) ps.length
  have h3 := h.1; have h4 := h.2.1
  unfold txt
  have : ps.length * 5002 ≤ 4000 * 5002 := Nat.mul_le_mul_right _ h3
  omega

end Go.Proofs.YtmhoacnbmbhcjaaGreatDoor

namespace Go.Proofs.YtmhoacnbmbhcjaaGreatDoor
open Go.RowKit Pl

set_option maxHeartbeats 1600000 in
set_option maxRecDepth 100000 in
theorem PCode_bad (w : World) (v : Value) (ps : List Ins) (h : ArgP w v ps) (hl : ps.length ≤ 281474976710656) (hz : ∀ x ∈ ps, x.tree.length ≤ 281474976710656) (hr : ¬ PValid ps) :
    Calls Tryz.prog 44 #[v] w fun e w' => e = .returned (.tuple #[.string (S []), .int .i64 1]) ∧ Below w.heap.size w w' := by
  have HV := Lib.hid (CV_arg w v ps false h hl hz (by simp [hr]))
  clear h hl hz hr
  go_enter Tryz.func44, Tryz.ntmps44
  go_wp2_with fail
  refine HV.out.mono ?_
  rintro e w1 ⟨rfl, h1⟩
  go_wp2_with fail
  go_ret2
  exact ⟨rfl, h1⟩
set_option maxHeartbeats 1600000 in
set_option maxRecDepth 100000 in
theorem PCode_none (w : World) (a : Option Addr) (cap : Nat) :
    Calls Tryz.prog 44 #[.slice a 0 cap] w (CRes [] w) := by
  obtain ⟨i0, hi, hz0, hz1, hz2⟩ := info_parts Tryz.infoStr
  go_enter Tryz.func44, Tryz.ntmps44
  go_wp2_with fail
  refine (CV_none _ a cap).mono ?_
  rintro e w1 ⟨rfl, h1⟩
  go_wp2_with fail
  refine (operations_good _).mono ?_
  rintro e w2 ⟨t, rfl, _, h2⟩
  have hb2 := h1.trans (h2.mono h1.size)
  go_wp2_with (at_make; refine wpList_make_full _ rfl _ _ 100 rfl w.heap.size 9 i0 (.string ⟨#[]⟩) 1 Tryz.underlying100 hi hz0 hz1 .i64 .i64 _ _ 0 rfl rfl rfl rfl (by rw [hz2]; omega) (by unfold maxLen; omega) hb2.size ?_)
  intro w3 hown hgrow
  have hb3 : Below w2.heap.size w2 w3 := (Below.refl _ _).grown hgrow (Nat.le_refl _) (by simp)
  have hb4 : Below w.heap.size w w3 := hb2.trans (hb3.mono hb2.size)
  clear hown hgrow hi hz0 hz1 hz2 hb3 hb2 h1 h2
  go_wp2
  go_loopw [19] (fun i wr => i = .int .i64 0 ∧ Below w.heap.size w wr) (fun _ _ => 0)
  case atStart => exact ⟨rfl, hb4⟩
  case round =>
    clear hb4
    obtain ⟨rfl, hb⟩ := hrel
    go_wp2_with fail
    refine (List_none _ _ 0).mono ?_
    rintro e w9 ⟨rfl, h9⟩
    go_wp2_with fail
    go_ret2
    exact ⟨.inl ⟨by decide, rfl⟩, hb.trans (h9.mono hb.size)⟩
theorem PCode_arg (w : World) (v : Value) (ps : List Ins) (h : ArgP w v ps) (hv : PValid ps) : Calls Tryz.prog 44 #[v] w (CRes ps w) := by
  rcases h with ⟨rfl, h⟩ | ⟨h0, b1, off, cap, rfl, hc⟩
  · obtain ⟨a, cap, rfl⟩ := empty_arg h
    exact PCode_none w a cap
  · exact PCode_some w b1 off cap ps hc h0 hv
end Go.Proofs.YtmhoacnbmbhcjaaGreatDoor
