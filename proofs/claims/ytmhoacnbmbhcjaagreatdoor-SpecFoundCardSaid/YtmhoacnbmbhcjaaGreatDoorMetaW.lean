/- Package spec: the walk of Meta. By an AI agent. -/
import Derived.Test.YtmhoacnbmbhcjaaGreatDoorMeta
namespace Go.Proofs.YtmhoacnbmbhcjaaGreatDoor
open Go.RowKit Pl

attribute [local go_sem] Oper.semAt_some

/-- the codes that are put ahead, in their order -/
def mxs : List (List UInt8) := [sec2, sec3]
/-- what has been written when so many rounds are over -/
def psF (pre : List Nat) : List Ins := pre.foldl (fun s x => s ++ [setI 2 (mxs[mxs.length - 1 - x]?.getD [48]), consI 1 2 1]) [headI 1 0, tailI 0 0]
theorem psF_snoc (pre : List Nat) (x : Nat) : psF (pre ++ [x]) = psF pre ++ [setI 2 (mxs[mxs.length - 1 - x]?.getD [48]), consI 1 2 1] := by simp [psF]
theorem psF_len (pre : List Nat) : (psF pre).length = 2 + 2 * pre.length := by
  unfold psF
  suffices ∀ (l : List Nat) (s : List Ins), (l.foldl (fun s x => s ++ [setI 2 (mxs[mxs.length - 1 - x]?.getD [48]), consI 1 2 1]) s).length = s.length + 2 * l.length by
    rw [this]; rfl
  intro l
  induction l with
  | nil => intro s; rfl
  | cons a l ih => intro s; rw [List.foldl_cons, ih]; simp; omega
theorem mxs_le (x : Nat) : (mxs[mxs.length - 1 - x]?.getD [48]).length ≤ 13 := by
  have h : (mxs.all fun l => decide (l.length ≤ 13)) = true := by decide
  cases hx : mxs[mxs.length - 1 - x]? with
  | none => simp
  | some l => exact of_decide_eq_true (List.all_eq_true.1 h l (List.mem_of_getElem? hx))
theorem keepc {A B : World} {row : Option Nat} {k : Nat} {cs : Array Value} {ty : TypeId} {fr : Nat × Nat} (hg : A.grownBy B row) (hr : ∀ r, row = some r → ∃ o : Obj, A.heap[r]? = some o ∧ o.isCells = false) (h : A.heap[k]? = some (.cells cs ty fr)) : B.heap[k]? = some (.cells cs ty fr) := by
  rw [hg.block k (Array.getElem?_eq_some_iff.1 h).1 fun e => ?_]
  · exact h
  · obtain ⟨o, ho, hn⟩ := hr k e.symm
    rw [h] at ho
    cases ho
    cases hn
theorem wr_keep {A C : World} {X B : Nat} {v : Value} {ps : List Ins} {row : Option Nat} (h : WrAt A X B v ps) (hg : A.grownBy C row) (hr : ∀ r, row = some r → ∃ o : Obj, A.heap[r]? = some o ∧ o.isCells = false) : WrAt C X B v ps :=
  ⟨keepc hg hr h.mem, h.own.kept hg (by
    rcases h.own.2 with ⟨hv, _⟩ | ⟨g, cap, cur, hv, _, hc, _⟩
    · left; rw [hv]; rfl
    · right
      intro e
      obtain ⟨o, ho, hn⟩ := hr g (by rw [← e, hv]; rfl)
      rw [hc] at ho
      cases ho
      cases hn), h.lt, Nat.le_trans h.le hg.size⟩
theorem own_nc {A C : World} {B k n : Nat} {e : TypeId} {v : Value} {xs : List Value} {row : Option Nat} (h : A.ownsRow B e k v n xs) (hg : A.grownBy C row) (hr : ∀ r, row = some r → ∃ o : Obj, A.heap[r]? = some o ∧ o.isCells = false) : C.ownsRow B e k v n xs :=
  h.kept hg (by
    rcases h.2 with ⟨hv, _⟩ | ⟨g, cap, cur, hv, _, hc, _⟩
    · left; rw [hv]; rfl
    · right
      intro e
      obtain ⟨o, ho, hn⟩ := hr g (by rw [← e, hv]; rfl)
      rw [hc] at ho
      cases ho
      cases hn)
/-- what holds between the rounds -/
def MetaI (w : World) (X g cap Bs : Nat) (cs : Array Value) (fr : Nat × Nat) (pre : List Nat) (W : World) : Prop :=
  (∃ v, WrAt W X (X + 4) v (psF pre)) ∧ W.heap[X + 1]? = some (.cells #[.func (.func 101) #[.pointer (some ⟨X, 0, none⟩)] #[]] 120 (0, 0)) ∧ W.heap[X + 1 + 1]? = some (.cells #[.func (.func 102) #[.pointer (some ⟨X, 0, none⟩)] #[]] 121 (0, 0)) ∧
  W.heap[X + 1 + 1 + 1]? = some (.cells #[.func (.func 105) #[] #[.pointer (some ⟨X + 1, 0, none⟩), .pointer (some ⟨X + 1 + 1, 0, none⟩)]] 123 (0, 0)) ∧
  W.heap[g]? = some (.cells cs 9 fr) ∧ W.heap[Bs]? = some (.cells #[.slice (some ⟨g, 1, none⟩) 2 (cap - 1)] 100 (0, 0)) ∧ Below X w W
/-- what holds behind the rounds -/
structure MS (W : World) (X D : Nat) (v : Value) (ps : List Ins) : Prop where
  wr : WrAt W X (X + 4) v ps
  q1 : W.heap[X + 1]? = some (.cells #[.func (.func 101) #[.pointer (some ⟨X, 0, none⟩)] #[]] 120 (0, 0))
  q2 : W.heap[X + 1 + 1]? = some (.cells #[.func (.func 102) #[.pointer (some ⟨X, 0, none⟩)] #[]] 121 (0, 0))
  q3 : W.heap[X + 1 + 1 + 1]? = some (.cells #[.func (.func 105) #[] #[.pointer (some ⟨X + 1, 0, none⟩), .pointer (some ⟨X + 1 + 1, 0, none⟩)]] 123 (0, 0))
  dd : W.heap[D]? = some (.deferred (some []))
theorem MS.below {W W' : World} {X D : Nat} {v : Value} {ps : List Ins} (h : MS W X D v ps) (hb : Below W.heap.size W W') : MS W' X D v ps :=
  ⟨h.wr.below hb, (hb.block _ (Array.getElem?_eq_some_iff.1 h.q1).1).trans h.q1, (hb.block _ (Array.getElem?_eq_some_iff.1 h.q2).1).trans h.q2, (hb.block _ (Array.getElem?_eq_some_iff.1 h.q3).1).trans h.q3, (hb.block _ (Array.getElem?_eq_some_iff.1 h.dd).1).trans h.dd⟩
theorem MS.of_heap {V W : World} {X D : Nat} {v : Value} {ps : List Ins} (h : MS W X D v ps) (e : V.heap = W.heap) : MS V X D v ps := by
  obtain ⟨⟨a, b, c, d⟩, q1, q2, q3, q4⟩ := h
  exact ⟨⟨by rw [e]; exact a, by unfold World.ownsRow at *; rw [e]; exact b, c, by rw [e]; exact d⟩, by rw [e]; exact q1, by rw [e]; exact q2, by rw [e]; exact q3, by rw [e]; exact q4⟩
theorem Kp.of_drawn {X B : Nat} {V W w' : World} (e : V.heap = W.heap) (h1 : V.os = W.os) (h2 : V.tape = W.tape) (h3 : V.output = W.output) (h : Below V.heap.size V w') (hB : B ≤ W.heap.size) : Kp X B W w' :=
  ⟨h.os.trans h1, h.tape.trans h2, h.output.trans h3, by have := h.size; rw [e] at this; exact this, fun j hj _ => by rw [h.block j (by rw [e]; omega), e]⟩
theorem MS.put {W : World} {X D : Nat} {v : Value} {ps : List Ins} (h : MS W X D v ps) (r : Int) (t : List UInt8) (hn : (ps.length + 2) * 48 ≤ 140737488355328) (ht : t.length ≤ 281474976710656) :
    Calls Tryz.prog 105 #[.string (S t), .int .i64 r, .pointer (some ⟨X + 1, 0, none⟩), .pointer (some ⟨X + 1 + 1, 0, none⟩)] W fun e w' => e = .returned (.tuple #[]) ∧ ∃ v', MS w' X D v' (ps ++ [setI 2 t, consI r 2 r]) ∧ Kp X (X + 4) W w' := by
  refine (put_any W X (X + 4) (X + 1) (X + 1 + 1) v ps r t h.wr (Lib.cell_of_heap h.q1 0) (Lib.cell_of_heap h.q2 0) (by omega) (by omega) hn ht).mono ?_
  rintro e w' ⟨rfl, v', hw, hk, ho⟩
  exact ⟨rfl, v', ⟨hw, (hk.block _ (by omega) (by omega)).trans h.q1, (hk.block _ (by omega) (by omega)).trans h.q2, (hk.block _ (by omega) (by omega)).trans h.q3, ho D _ h.dd (fun cs fr e => by cases e) (fun cs fr e => by cases e)⟩, hk⟩
theorem MS.c3 {W : World} {X D : Nat} {v : Value} {ps : List Ins} (h : MS W X D v ps) : W.cell? ⟨X + 1 + 1 + 1, 0, none⟩ = some (.func (.func 105) #[] #[.pointer (some ⟨X + 1, 0, none⟩), .pointer (some ⟨X + 1 + 1, 0, none⟩)]) := Lib.cell_of_heap h.q3 0
theorem MS.c2 {W : World} {X D : Nat} {v : Value} {ps : List Ins} (h : MS W X D v ps) : W.cell? ⟨X + 1 + 1, 0, none⟩ = some (.func (.func 102) #[.pointer (some ⟨X, 0, none⟩)] #[]) := Lib.cell_of_heap h.q2 0
theorem number_1 (w : World) : Calls Tryz.prog 108 #[.int .i64 1] w fun e w' => e = .returned (.string (S [49, 48, 48])) ∧ Below w.heap.size w w' := number_any w 1 (by decide)
theorem number_0 (w : World) : Calls Tryz.prog 108 #[.int .i64 0] w fun e w' => e = .returned (.string (S [48])) ∧ Below w.heap.size w w' := number_any w 0 (by decide)
set_option maxHeartbeats 6400000 in
set_option maxRecDepth 100000 in
theorem Meta_any (w : World) : Calls Tryz.prog 47 #[] w fun e w' => ∃ v, e = .returned v ∧ OwnP w' w.heap.size v metaL ∧ Below w.heap.size w w' := by
  obtain ⟨X, hX⟩ : ∃ X, X = w.heap.size := ⟨_, rfl⟩
  rw [← hX]
  obtain ⟨w4, hw4⟩ : ∃ w4, w4 = (((w.alloc (.cells #[.slice none 0 0] 77)).alloc (.cells #[.func (.func 101) #[.pointer (some ⟨X, 0, none⟩)] #[]] 120)).alloc (.cells #[.func (.func 102) #[.pointer (some ⟨X, 0, none⟩)] #[]] 121)).alloc (.cells #[.func (.func 105) #[] #[.pointer (some ⟨X + 1, 0, none⟩), .pointer (some ⟨X + 1 + 1, 0, none⟩)]] 123) := ⟨_, rfl⟩
  have hm : w4.heap[X]? = some (.cells #[.slice none 0 0] 77 (0, 0)) ∧ w4.heap[X + 1]? = some (.cells #[.func (.func 101) #[.pointer (some ⟨X, 0, none⟩)] #[]] 120 (0, 0)) ∧ w4.heap[X + 1 + 1]? = some (.cells #[.func (.func 102) #[.pointer (some ⟨X, 0, none⟩)] #[]] 121 (0, 0)) ∧ w4.heap[X + 1 + 1 + 1]? = some (.cells #[.func (.func 105) #[] #[.pointer (some ⟨X + 1, 0, none⟩), .pointer (some ⟨X + 1 + 1, 0, none⟩)]] 123 (0, 0)) ∧ w4.heap.size = X + 4 := by
    subst hX
    subst hw4
    refine ⟨?_, ?_, ?_, ?_, by simp⟩
    · rw [Below.heap_alloc _ _ _ (by simp <;> omega), Below.heap_alloc _ _ _ (by simp <;> omega), Below.heap_alloc _ _ _ (by simp)]; exact heap_alloc_new _ _
    · rw [Below.heap_alloc _ _ _ (by simp <;> omega), Below.heap_alloc _ _ _ (by simp)]
      have := heap_alloc_new (w.alloc (.cells #[.slice none 0 0] 77)) (.cells #[.func (.func 101) #[.pointer (some ⟨w.heap.size, 0, none⟩)] #[]] 120)
      simpa using this
    · rw [Below.heap_alloc _ _ _ (by simp)]
      have := heap_alloc_new ((w.alloc (.cells #[.slice none 0 0] 77)).alloc (.cells #[.func (.func 101) #[.pointer (some ⟨w.heap.size, 0, none⟩)] #[]] 120)) (.cells #[.func (.func 102) #[.pointer (some ⟨w.heap.size, 0, none⟩)] #[]] 121)
      simpa using this
    · have := heap_alloc_new (((w.alloc (.cells #[.slice none 0 0] 77)).alloc (.cells #[.func (.func 101) #[.pointer (some ⟨w.heap.size, 0, none⟩)] #[]] 120)).alloc (.cells #[.func (.func 102) #[.pointer (some ⟨w.heap.size, 0, none⟩)] #[]] 121)) (.cells #[.func (.func 105) #[] #[.pointer (some ⟨w.heap.size + 1, 0, none⟩), .pointer (some ⟨w.heap.size + 1 + 1, 0, none⟩)]] 123)
      simpa using this
  obtain ⟨m0, m1, m2, m3, m4⟩ := hm
  have HW4 : Hid (WrAt w4 X (X + 4) (.slice none 0 0) []) := Lib.hid ⟨m0, World.ownsRow_nil _ _ _ _, by omega, by omega⟩
  have HB4 : Hid (Below X w w4) := Lib.hid (by
    subst hX
    rw [hw4]
    exact ((((Below.refl _ w).alloc (Nat.le_refl _) _).alloc (by simp) _).alloc (by simp; omega) _).alloc (by simp; omega) _)
  have M1 := Lib.hid m1; have M2 := Lib.hid m2; have M3 := Lib.hid m3; have M4 := Lib.hid m4
  have HX := Lib.hid hX; have HWE := Lib.hid hw4
  clear m0 m1 m2 m3 m4 hw4
  refine (callsIn_wide (n := 5)).1 ?_
  refine callsIn_of_wp_marks Tryz.func47 rfl trivial ?_ rfl
  simp only [Tryz.ntmps47, List.size_toArray, List.length_nil, Array.replicate_succ, Array.replicate_zero, List.push_toArray, List.append_toArray, List.nil_append, List.cons_append]
  refine wpIn_wide.2 ?_
  clear hX
  go_wp2_with fail
  rw [← HX.out, ← HWE.out]
  refine (whead_any w4 X (X + 4) (.slice none 0 0) [] 1 0 HW4.out (by simp)).mono ?_
  rintro e w5 ⟨rfl, v5, hw5, hf5⟩
  have HW5 : Hid (WrAt w5 X (X + 4) v5 [headI 1 0]) := Lib.hid hw5
  have HK5 := Lib.hid (Kp.of_far hf5 HW4.out)
  clear hw5 hf5
  go_wp2_with fail
  refine (wtail_any w5 X (X + 4) v5 [headI 1 0] 0 0 HW5.out (by simp)).mono ?_
  rintro e w6 ⟨rfl, v6, hw6, hf6⟩
  have HW6 : Hid (WrAt w6 X (X + 4) v6 (psF [])) := Lib.hid hw6
  have HK6 := Lib.hid (HK5.out.trans (Kp.of_far hf6 HW5.out))
  clear hw6 hf6
  go_wp2_with fail
  refine (supply_any w6 [48] (by decide)).mono ?_
  rintro e w7 ⟨u7, rfl, ho7, h7⟩
  have ha7 : ArgP w7 u7 sup0 := (own_prog (ps := sup0) ho7).2.1
  have HA7 := Lib.hid ha7
  have HW7 := Lib.hid (HW6.out.below h7)
  have HK7 := Lib.hid (HK6.out.trans (Kp.of_below h7 HW6.out.le))
  obtain ⟨a7, c7, rfl⟩ : ∃ a c, u7 = .slice a 3 c := ha7.form
  clear ho7 ha7 h7
  go_wp2_with fail
  refine (codesOf_any w7 _ HA7.out).mono ?_
  rintro e w8 ⟨g, cap, base, rfl, ho8, h8⟩
  have HW8 := Lib.hid (HW7.out.below h8)
  have HK8 := Lib.hid (HK7.out.trans (Kp.of_below h8 HW7.out.le))
  obtain ⟨cur, hcg, hcap3, hcl, hct⟩ : ∃ cur, w8.heap[g]? = some (.cells cur 9 (0, 0)) ∧ 3 ≤ cap ∧ cap ≤ maxLen ∧ cur.toList.take 3 = strsV (codes sup0) := by
    rcases ho8.2 with ⟨h9, _⟩ | ⟨g9, cap9, cur9, h9, _, q1, q2, q3, _, q5⟩
    · cases h9
    · cases h9
      exact ⟨cur9, q1, q2, q3, q5⟩
  have HG := Lib.hid hcg; have HCT := Lib.hid hct
  have hcl2 : cap ≤ 9223372036854775807 := by unfold maxLen at hcl; omega
  clear ho8 h8 hcg hct hcl
  have B8 : Hid (Below X w w8) := Lib.hid (HB4.out.trans (HK8.out.below (by omega)))
  go_wp2_with fail
  refine ((callsIn_wide (n := 4)).1 (backward_in Fence.wide 4 trivial rfl (some ⟨g, 1, none⟩) 2 (cap - 1) w8)).mono ?_
  rintro e w9 ⟨rfl, hw9⟩
  have hbg : g < w8.heap.size := (Array.getElem?_eq_some_iff.1 HG.out).1
  obtain ⟨Bs, hBs⟩ : ∃ Bs, Bs = w8.heap.size := ⟨_, rfl⟩
  have K9 : Kp X (X + 4) w4 w9 := HK8.out.trans (by rw [hw9]; exact Kp.of_below (alloc_belowW _ _) HW8.out.le)
  have i1 : w9.heap[X + 1]? = some (.cells #[.func (.func 101) #[.pointer (some ⟨X, 0, none⟩)] #[]] 120 (0, 0)) := (K9.block (X + 1) (by omega) (by omega)).trans M1.out
  have i2 : w9.heap[X + 1 + 1]? = some (.cells #[.func (.func 102) #[.pointer (some ⟨X, 0, none⟩)] #[]] 121 (0, 0)) := (K9.block (X + 1 + 1) (by omega) (by omega)).trans M2.out
  have i3 : w9.heap[X + 1 + 1 + 1]? = some (.cells #[.func (.func 105) #[] #[.pointer (some ⟨X + 1, 0, none⟩), .pointer (some ⟨X + 1 + 1, 0, none⟩)]] 123 (0, 0)) := (K9.block (X + 1 + 1 + 1) (by omega) (by omega)).trans M3.out
  have i4 : w9.heap[g]? = some (.cells cur 9 (0, 0)) := by rw [hw9, Below.heap_alloc _ _ _ hbg]; exact HG.out
  have i5 : w9.heap[Bs]? = some (.cells #[.slice (some ⟨g, 1, none⟩) 2 (cap - 1)] 100 (0, 0)) := by rw [hw9, hBs]; exact heap_alloc_new _ _
  have i6 : Below X w w9 := HB4.out.trans (K9.below (by omega))
  have i7 : WrAt w9 X (X + 4) v6 (psF []) := by rw [hw9]; exact HW8.out.below (alloc_belowW _ _)
  have hX9 : X ≤ w9.heap.size := Nat.le_trans (by omega) i7.le
  have hc9 : ∀ j, j < mxs.length → w9.cell? ⟨g, 1 + j, none⟩ = some (.string (S (mxs[j]?.getD [48]))) := by
    intro j hj
    have hj2 : j < 2 := hj
    rw [Lib.cell_of_heap i4 (1 + j)]
    have h3 : (cur.toList.take 3)[1 + j]? = cur[1 + j]? := by
      rw [List.getElem?_take_of_lt (by omega)]; simp
    rw [← h3, HCT.out, sup0_codes]
    have : j = 0 ∨ j = 1 := by omega
    rcases this with rfl | rfl <;> rfl
  have I0 : Hid (MetaI w X g cap Bs cur (0, 0) [] w9) := Lib.hid ⟨⟨v6, i7⟩, i1, i2, i3, i4, i5, i6⟩
  have hb5 : Bs < w9.heap.size := (Array.getElem?_eq_some_iff.1 i5).1
  have hb4 : g < w9.heap.size := (Array.getElem?_eq_some_iff.1 i4).1
  have S9 := Lib.hid (bwd_stops Fence.wide 4 trivial rfl (by decide) Bs g 1 (cap - 1) mxs (by decide) w9 hb4 hb5 (Lib.cell_of_heap i5 0) hc9)
  have HKB := Lib.hid (fun (W : World) (l : Nat) (o o' : Obj) (hl : w9.heap.size ≤ l) (_ : W.heap[l]? = some o) (_ : o.isCells = false) (_ : o.isWalk = false) => Kr.putObj hb4 hb5 W l o' hl)
  have HBSE := Lib.hid hBs
  have HX9 := Lib.hid hX9
  rw [← hBs]
  clear hbg K9 i1 i2 i3 i4 i5 i6 i7 hc9 hb5 hb4 hw9 hBs hX9
  go_wp2
  refine (wpIn_wide (n := 5)).1 ?_
  refine wpIn_rangeFunc_ownF (n := 5) rfl (by decide) (gf := 157) (lb := #[.pointer (some ⟨Bs, 0, none⟩)]) rfl trivial (enters_of Tryz.func157 (by kernel_rfl) rfl)
    S9.out (fun h k => h.trans k) HKB.out (Below.refl _ _) (fun _ => by rfl)
    (MetaI w X g cap Bs cur (0, 0)) (fun _ _ _ => False)
    (fun s A C row hs hg hr => by
      obtain ⟨⟨v, hv⟩, q1, q2, q3, q4, q5, q6⟩ := hs
      have hr2 : ∀ r, row = some r → ∃ o : Obj, A.heap[r]? = some o ∧ o.isCells = false := fun r e => (hr r e).2
      exact ⟨⟨v, wr_keep hv hg hr2⟩, keepc hg hr2 q1, keepc hg hr2 q2, keepc hg hr2 q3, keepc hg hr2 q4, keepc hg hr2 q5, q6.grown hg (Nat.le_trans (by omega) hv.le) (fun r e => Nat.le_trans HX9.out (hr r e).1)⟩)
    (fun _ s A C row hs _ _ => hs.elim) I0.out
    (fun k => { tmps := #[.slice none 0 0, .pointer (some ⟨X, 0, none⟩), .pointer (some ⟨X + 1, 0, none⟩), .pointer (some ⟨X + 1 + 1, 0, none⟩), .func (.func 103) #[.pointer (some ⟨X, 0, none⟩)] #[], .func (.func 104) #[.pointer (some ⟨X, 0, none⟩)] #[], .pointer (some ⟨X + 1 + 1 + 1, 0, none⟩), .slice (some ⟨g, 0, none⟩) 3 cap, undef, .string (S (mxs[mxs.length - 1 - k]?.getD [48])),
      .func (.func 101) #[.pointer (some ⟨X, 0, none⟩)] #[], .func (.func 102) #[.pointer (some ⟨X, 0, none⟩)] #[], .func (.func 103) #[.pointer (some ⟨X, 0, none⟩)] #[], .func (.func 104) #[.pointer (some ⟨X, 0, none⟩)] #[], .func (.func 105) #[] #[.pointer (some ⟨X + 1, 0, none⟩), .pointer (some ⟨X + 1 + 1, 0, none⟩)],
      .func (.func 103) #[.pointer (some ⟨X, 0, none⟩)] #[], .tuple #[], .func (.func 104) #[.pointer (some ⟨X, 0, none⟩)] #[], .tuple #[], .slice a7 3 c7, .slice (some ⟨g, 0, none⟩) 3 cap, .slice (some ⟨g, 0, none⟩) 3 cap, .slice (some ⟨g, 1, none⟩) 2 (cap - 1), .func (.func 157) #[] #[.pointer (some ⟨Bs, 0, none⟩)],
      .int .i64 ((mxs.length : Int) - 1 - k), .string (S (mxs[mxs.length - 1 - k]?.getD [48])), undef, undef, undef, undef, undef, undef, undef, undef, undef, undef, undef, undef, undef], defers := [] }) ?assign ?body ?done ?stop
  case assign =>
    intro l x W K hK
    simp only [bwE]
    gi_wp2
    exact hK
  case body =>
    rintro l pre x W ⟨⟨v, hv⟩, q1, q2, q3, q4, q5, q6⟩ hpl
    have hpl2 : pre.length < 2 := hpl
    have c3 : W.cell? ⟨X + 1 + 1 + 1, 0, none⟩ = some (.func (.func 105) #[] #[.pointer (some ⟨X + 1, 0, none⟩), .pointer (some ⟨X + 1 + 1, 0, none⟩)]) := Lib.cell_of_heap q3 0
    have HP := Lib.hid (put_any W X (X + 4) (X + 1) (X + 1 + 1) v (psF pre) 1 (mxs[mxs.length - 1 - x]?.getD [48]) hv (Lib.cell_of_heap q1 0) (Lib.cell_of_heap q2 0) (by omega) (by omega) (by rw [psF_len]; omega) (by have := mxs_le x; omega))
    have Q1 := Lib.hid q1; have Q2 := Lib.hid q2; have Q3 := Lib.hid q3; have Q4 := Lib.hid q4; have Q5 := Lib.hid q5; have Q6 := Lib.hid q6
    clear q1 q2 q3 q4 q5 q6 hv
    generalize hmx : mxs[mxs.length - 1 - x]?.getD [48] = mx at *
    have HMX := Lib.hid hmx
    clear hmx
    gi_wp2_with fail
    refine ⟨trivial, ?_⟩
    refine (CallsIn.inRound l (callsIn_wide.2 HP.out)).mono ?_
    rintro e W4 ⟨rfl, v', hw', hk, ht⟩
    have HW' := Lib.hid hw'; have HK' := Lib.hid hk; have HT' := Lib.hid ht
    clear hw' hk ht
    gi_wp2
    have n1 : ∀ (cs : Array Value) (ty : TypeId) (fr : Nat × Nat), ty ≠ 77 → ∀ cs' fr', Obj.cells cs ty fr ≠ .cells cs' 77 fr' := fun cs ty fr h cs' fr' e => by cases e; exact h rfl
    have n2 : ∀ (cs : Array Value) (ty : TypeId) (fr : Nat × Nat), ty ≠ 64 → ∀ cs' fr', Obj.cells cs ty fr ≠ .cells cs' 64 fr' := fun cs ty fr h cs' fr' e => by cases e; exact h rfl
    have g4 := HT'.out g _ Q4.out (n1 _ _ _ (by decide)) (n2 _ _ _ (by decide))
    have g5 := HT'.out Bs _ Q5.out (n1 _ _ _ (by decide)) (n2 _ _ _ (by decide))
    refine ⟨HT'.out.keeps HK'.out.size, ⟨g4.trans Q4.out.symm, g5.trans Q5.out.symm⟩, ⟨v', by rw [psF_snoc, HMX.out]; exact HW'.out⟩, (HK'.out.block _ (by omega) (by omega)).trans Q1.out, (HK'.out.block _ (by omega) (by omega)).trans Q2.out, (HK'.out.block _ (by omega) (by omega)).trans Q3.out, g4, g5, Q6.out.trans (HK'.out.below (by omega))⟩
  case done =>
    rintro D ys W hD rfl ⟨⟨v, hv⟩, q1, q2, q3, q4, q5, q6⟩ hDD
    have hM : MS W X D v (psF (List.range mxs.length)) := ⟨hv, q1, q2, q3, hDD⟩
    have HP1 := Lib.hid (fun (V W5 : World) (hV : V.heap = W.heap) (hb : Below V.heap.size V W5) => ((hM.of_heap hV).below hb).put 0 [49, 48, 48] (by rw [psF_len]; decide) (by decide))
    have HC1 := Lib.hid (fun (V W5 : World) (hV : V.heap = W.heap) (hb : Below V.heap.size V W5) => ((hM.of_heap hV).below hb).c3)
    have HK0 := Lib.hid (fun (V W5 : World) (hV : V.heap = W.heap) (h1 : V.os = W.os) (h2 : V.tape = W.tape) (h3 : V.output = W.output) (hb : Below V.heap.size V W5) => Kp.of_drawn (X := X) hV h1 h2 h3 hb hv.le)
    have c3 := hM.c3
    have Q6 := Lib.hid q6; have HD := Lib.hid hD
    clear hv q1 q2 q3 q4 q5 q6 hD hDD hM
    go_wp2_with fail
    go_region_held3 (fun w' => w'.cell? ⟨X + 1 + 1 + 1, 0, none⟩ = some (.func (.func 105) #[] #[.pointer (some ⟨X + 1, 0, none⟩), .pointer (some ⟨X + 1 + 1, 0, none⟩)])) (first | assumption | go_keep | trivial)
      (first
        | (go_at_call 108; (with_reducible refine (number_1 _).mono ?_); rintro e w10 ⟨rfl, hb10⟩; have c10 := HC1.out _ _ (by rfl) hb10)
        | (go_at_call 105; refine (HP1.out _ _ (by rfl) hb10).mono ?_; rintro e w11 ⟨rfl, v11, hm11, hk11⟩; have c11 := hm11.c3))
    have K11 : Hid (Kp X (X + 4) W w11) := Lib.hid ((HK0.out _ _ (by rfl) (by rfl) (by rfl) (by rfl) hb10).trans hk11)
    have HP2 := Lib.hid (fun (V W5 : World) (hV : V.heap = w11.heap) (hb : Below V.heap.size V W5) => ((hm11.of_heap hV).below hb).put 0 [48] (of_decide_eq_true (by kernel_rfl)) (by decide))
    have HC2 := Lib.hid (fun (V W5 : World) (hV : V.heap = w11.heap) (hb : Below V.heap.size V W5) => ((hm11.of_heap hV).below hb).c3)
    have HK2 := Lib.hid (fun (V W5 : World) (hV : V.heap = w11.heap) (h1 : V.os = w11.os) (h2 : V.tape = w11.tape) (h3 : V.output = w11.output) (hb : Below V.heap.size V W5) => Kp.of_drawn (X := X) hV h1 h2 h3 hb hm11.wr.le)
    clear c3 c10 hb10 hk11 hm11 HP1 HC1 HK0
    go_wp2_with fail
    go_region_held3 (fun w' => w'.cell? ⟨X + 1 + 1 + 1, 0, none⟩ = some (.func (.func 105) #[] #[.pointer (some ⟨X + 1, 0, none⟩), .pointer (some ⟨X + 1 + 1, 0, none⟩)])) (first | assumption | go_keep | trivial)
      (first
        | (go_at_call 108; (with_reducible refine (number_0 _).mono ?_); rintro e w12 ⟨rfl, hb12⟩; have c12 := HC2.out _ _ (by rfl) hb12)
        | (go_at_call 105; refine (HP2.out _ _ (by rfl) hb12).mono ?_; rintro e w13 ⟨rfl, v13, hm13, hk13⟩; have c13 := hm13.c3))
    have K13 : Hid (Kp X (X + 4) W w13) := Lib.hid (K11.out.trans ((HK2.out _ _ (by rfl) (by rfl) (by rfl) (by rfl) hb12).trans hk13))
    have HM13 := Lib.hid hm13
    have d13 := hm13.c2
    clear c11 c12 c13 hb12 hk13 hm13 HP2 HC2 HK2
    go_wp2_with fail
    refine (wcons_any w13 X (X + 4) v13 _ 0 0 1 HM13.out.wr (of_decide_eq_true (by kernel_rfl))).mono ?_
    rintro e w14 ⟨rfl, v14, hw14, hf14⟩
    have K14 : Hid (Kp X (X + 4) W w14) := Lib.hid (K13.out.trans (Kp.of_far hf14 HM13.out.wr))
    have D14 : Hid (w14.heap[D]? = some (.deferred (some []))) := Lib.hid (Ot.of_far hf14 HM13.out.wr D _ HM13.out.dd (fun cs fr e => by cases e) (fun cs fr e => by cases e))
    have HO14 : Hid (w14.ownsRow (X + 4) 64 5 v14 11 (progV metaL)) := Lib.hid hw14.own
    have c14 : w14.cell? ⟨X, 0, none⟩ = some v14 := Lib.cell_of_heap hw14.mem 0
    clear hw14 hf14 d13
    go_wp2
    refine ⟨by simp, .inl ⟨_, _, rfl, run_takeDeferred D14.out, ?_⟩⟩
    have o15 := own_nc HO14.out (grownBy_putObj' w14 D (.deferred none)) (fun r e => by cases e; exact ⟨_, D14.out, rfl⟩)
    refine ⟨v14, by simp [results, Tryz.f47, go_sem], v14, rfl, own_lower o15 (by omega), ?_⟩
    exact (Q6.out.trans (K14.out.below (by omega))).trans (belowK_b (w := w9) HX9.out w14 D _ _ HD.out D14.out rfl rfl)
  case stop =>
    rintro D c pre W hD _ h _
    exact h.elim
end Go.Proofs.YtmhoacnbmbhcjaaGreatDoor
