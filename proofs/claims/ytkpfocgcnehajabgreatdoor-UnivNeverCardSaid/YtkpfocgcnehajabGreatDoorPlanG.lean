/- The universal program as it is written: its jumps get their lengths. By an AI agent. -/
import Derived.Test.YtkpfocgcnehajabGreatDoorPlanF
import Derived.Test.YtkpfocgcnehajabGreatDoorUnivM
namespace Go.Proofs.YtkpfocgcnehajabGreatDoor
open Go.RowKit Go.Maps Pl

/-- the place with a name, as the map has it -/
def toOf (M : List (List UInt8 × Nat)) (n : List UInt8) : Int := match (placesD Unit M).atKey (.string n) (.lit (.int .i64 0)) with | .lit (.int _ c) => c | _ => 0
def setB (ps : List Ins) (k : Nat) (b : Int) : List Ins := match ps[k]? with | some x => ps.set k ⟨x.op, x.a, b, x.c, x.tree⟩ | none => ps
def finL (M : List (List UInt8 × Nat)) : List (Nat × List UInt8) → List Ins → List Ins
  | [], ps => ps
  | e :: L, ps => finL M L (setB ps e.1 (toOf M e.2 - (e.1 : Int)))
theorem setB_len (ps : List Ins) (k : Nat) (b : Int) : (setB ps k b).length = ps.length := by
  unfold setB; split <;> simp
theorem finL_len (M : List (List UInt8 × Nat)) : ∀ (L : List (Nat × List UInt8)) (ps : List Ins), (finL M L ps).length = ps.length
  | [], _ => rfl
  | e :: L, ps => by show (finL M L _).length = _; rw [finL_len M L, setB_len]
theorem finL_app (M : List (List UInt8 × Nat)) (e : Nat × List UInt8) : ∀ (L : List (Nat × List UInt8)) (ps : List Ins), finL M (L ++ [e]) ps = setB (finL M L ps) e.1 (toOf M e.2 - (e.1 : Int))
  | [], _ => rfl
  | a :: L, ps => by show finL M (L ++ [e]) _ = _; rw [finL_app M e L]; rfl
theorem progV_set (ps : List Ins) (k : Nat) (b : Int) (hk : k < ps.length) : progV (setB ps k b) = (progV ps).set (k * 5 + 2) (.int .i64 b) := by
  induction ps generalizing k with
  | nil => simp at hk
  | cons x ps ih =>
    cases k with
    | zero => rfl
    | succ k =>
      have hk2 : k < ps.length := by simpa using hk
      have e1 : setB (x :: ps) (k + 1) b = x :: setB ps k b := by
        unfold setB
        rw [List.getElem?_cons_succ, List.getElem?_eq_getElem hk2]; rfl
      rw [e1]
      show x.cells ++ progV (setB ps k b) = (x.cells ++ progV ps).set _ _
      rw [ih k hk2, List.set_append_right _ _ (by simp [Ins.cells]; omega)]
      congr 2
      simp [Ins.cells]; omega
theorem leap_get {L : List (Nat × List UInt8)} {k : Nat} {e : Nat × List UInt8} (h : L[k]? = some e) : (leapV L)[2 * k]? = some (.int .i64 (e.1 : Int)) ∧ (leapV L)[2 * k + 1]? = some (.string (S e.2)) := by
  induction L generalizing k with
  | nil => simp at h
  | cons a L ih =>
    cases k with
    | zero => simp only [List.getElem?_cons_zero, Option.some.injEq] at h; subst h; exact ⟨rfl, rfl⟩
    | succ k =>
      obtain ⟨h1, h2⟩ := ih (by simpa using h)
      show ([_, _] ++ leapV L)[_]? = _ ∧ ([_, _] ++ leapV L)[_]? = _
      rw [show 2 * (k + 1) = 2 * k + 2 from by omega, show 2 * k + 2 + 1 = (2 * k + 1) + 2 from by omega, List.getElem?_append_right (by simp), List.getElem?_append_right (by simp)]
      exact ⟨by simpa using h1, by simpa using h2⟩
theorem PlanAt.set {w : World} {X mb g cap k : Nat} {lv : Value} {H : Type} {ps : List Ins} {M : List (List UInt8 × Nat)} {L : List (Nat × List UInt8)} {b : Int} (h : PlanAt w X (.slice (some ⟨g, 0, none⟩) ps.length cap) lv mb H ps M L) (hk : k < ps.length) :
    PlanAt (w.setCell ⟨g, k * 5 + 2, none⟩ (.int .i64 b)) X (.slice (some ⟨g, 0, none⟩) ps.length cap) lv mb H (setB ps k b) M L := by
  have h1 := h.own.lt g rfl
  have h9 := h.mlt
  refine ⟨(Below.heap_setCell _ _ _ _ (by show X ≠ g; omega)).trans h.mem, ?_, ownsRow_setCell_other h.own2 (fun e => ?_) _, ownsMap_at h.map (Below.heap_setCell _ _ _ _ (by show mb ≠ g; omega)), h.mlt⟩
  · rw [progV_set ps k b hk, setB_len]
    exact (h.own.stored _ _).1
  · obtain ⟨c1, t1⟩ := row_type h.own2 e
    obtain ⟨c2, t2⟩ := row_type h.own (g := g) rfl
    simp only at t1
    rw [t1] at t2
    simp at t2
def FinOut (w0 : World) (X : Nat) (ps : List Ins) (e : Ending) (w' : World) : Prop := ∃ v, e = .returned v ∧ w'.ownsRow (X + 1) 43 5 v ps.length (progV ps) ∧ Below w0.heap.size w0 w'
set_option maxHeartbeats 3200000 in
set_option maxRecDepth 100000 in
theorem c_finish {w0 w1 : World} {X mb : Nat} {s : Pl3} (h : PlanS w0 w1 X mb Unit s) (hk : Ok 900 s) (h0 : 0 < s.L.length) (hL : ∀ e ∈ s.L, e.1 < s.ps.length ∧ 0 ≤ toOf s.M e.2 ∧ toOf s.M e.2 ≤ 5000 ∧ e.2.length ≤ 1000000) :
    Calls Tryz.prog 88 #[.pointer (some ⟨X, 0, none⟩)] w1 (FinOut w0 X (finL s.M s.L s.ps)) := by
  have hlow := h.lowX
  obtain ⟨v, lv, hp⟩ := h.plan
  obtain ⟨e0, he0⟩ : ∃ e, s.L[0]? = some e := ⟨_, List.getElem?_eq_getElem h0⟩
  obtain ⟨g, cap, rfl⟩ : ∃ g cap, v = .slice (some ⟨g, 0, none⟩) s.ps.length cap := by
    rcases hp.own.2 with ⟨_, h9⟩ | ⟨g, cap, _, e, _⟩
    · have := (hL e0 (List.mem_of_getElem? he0)).1; omega
    · exact ⟨g, cap, e⟩
  obtain ⟨g2, cap2, rfl⟩ : ∃ g cap, lv = .slice (some ⟨g, 0, none⟩) s.L.length cap := by
    rcases hp.own2.2 with ⟨_, h9⟩ | ⟨g, cap, _, e, _⟩
    · omega
    · exact ⟨g, cap, e⟩
  obtain ⟨ps, M, Ls⟩ := s
  simp only at hp h0 hL he0
  have c2 : w1.cell? ⟨X, 2, none⟩ = some (.slice (some ⟨g2, 0, none⟩) Ls.length cap2) := Lib.cell_of_heap hp.mem 2
  have HP := Lib.hid hp; have HB := Lib.hid h.base; have HLOW := Lib.hid hlow; have HL := Lib.hid hL
  have hkl : Ls.length ≤ 900 := hk.2.2
  have hkp : ps.length ≤ 900 := hk.1
  clear h hp hlow hL he0 hk e0
  generalize hm : Ls.length = m at *
  generalize hn : ps.length = n at *
  have HM := Lib.hid hm; have HN := Lib.hid hn
  clear hm hn
  go_enter Tryz.func88, Tryz.ntmps88
  go_wp2_with fail
  go_loopw [10] (fun i wr => ∃ k : Nat, k ≤ m ∧ i = .int .i64 k ∧ Hid (PlanAt wr X (.slice (some ⟨g, 0, none⟩) n cap) (.slice (some ⟨g2, 0, none⟩) m cap2) mb Unit (finL M (Ls.take k) ps) M Ls) ∧ Hid (Below w0.heap.size w0 wr)) (fun i _ => m - (intOf i).toNat)
  case atStart => exact ⟨0, Nat.zero_le _, rfl, Lib.hid (by rw [List.take_zero]; exact HP.out), HB⟩
  case round =>
    obtain ⟨k, hk, rfl, HW, HBW⟩ := hrel
    by_cases hlt : k < m
    · have hk1 : (k : Int) < (m : Int) := by omega
      have hk0 : (0 : Int) ≤ (k : Int) := by omega
      obtain ⟨⟨at_, nm⟩, he⟩ : ∃ e, Ls[k]? = some e := ⟨_, List.getElem?_eq_getElem (by rw [HM.out]; exact hlt)⟩
      obtain ⟨q1, q2, q3, q4⟩ := HL.out _ (List.mem_of_getElem? he)
      obtain ⟨y1, y2⟩ := leap_get he
      have ho2 := HW.out.own2
      rw [HM.out] at ho2
      have l0 : wr.cell? ⟨g2, k * 2, none⟩ = some (.int .i64 (at_ : Int)) := by rw [ho2.cellAt (k * 2) (by omega), Nat.mul_comm]; exact y1
      have l1 : wr.cell? ⟨g2, k * 2 + 1, none⟩ = some (.string (S nm)) := by rw [ho2.cellAt (k * 2 + 1) (by omega), Nat.mul_comm]; exact y2
      have hal := alloc_belowW wr (.cells #[.int .i64 (at_ : Int), .string (S nm)] 194)
      have hnew := heap_alloc_new wr (.cells #[.int .i64 (at_ : Int), .string (S nm)] 194)
      have HW2 := Lib.hid (HW.out.later hal); have HBW2 := Lib.hid (bstep HBW.out hal); have HNW := Lib.hid hnew
      clear hal hnew y1 y2 ho2
      go_wp2_with fail
      generalize wr.alloc (.cells #[.int .i64 (at_ : Int), .string (S nm)] 194) = wb at *
      generalize wr.heap.size = bx at *
      have hxs : (finL M (Ls.take k) ps).length = n := by rw [finL_len]; exact HN.out
      have HP2 := HW2.out
      obtain ⟨c, hrun, hat, _⟩ := HP2.map.drew.lookup_int strLaw Tryz.underlying135 Tryz.underlying3 (zeroInt _) (key := .string (S nm)) (kl := .string nm) (by have hk := Go.WideMaps.keyOf_string_mk (P := Tryz.prog) Tryz.underlying9 (s := S nm) (by rw [S_size]; unfold maxLen; omega); rw [S_list] at hk; exact hk)
      have hto : toOf M nm = c := by unfold toOf; rw [hat]
      have HTO := Lib.hid hto
      rw [hto] at q2 q3
      have b0 : wb.cell? ⟨bx, 0, none⟩ = some (.int .i64 (at_ : Int)) := Lib.cell_of_heap HNW.out 0
      have b1 : wb.cell? ⟨bx, 1, none⟩ = some (.string (S nm)) := Lib.cell_of_heap HNW.out 1
      have x0 : wb.cell? ⟨X, 0, none⟩ = some (.slice (some ⟨g, 0, none⟩) n cap) := Lib.cell_of_heap HP2.mem 0
      have x1 : wb.cell? ⟨X, 1, none⟩ = some (.map (some mb)) := Lib.cell_of_heap HP2.mem 1
      have hown := HP2.own
      rw [hxs] at hown
      obtain ⟨u, hu⟩ : ∃ u, (progV (finL M (Ls.take k) ps))[at_ * 5 + 2]? = some u := ⟨_, List.getElem?_eq_getElem (by rw [hown.1]; omega)⟩
      have s0 : wb.cell? ⟨g, at_ * 5 + 2, none⟩ = some u := by rw [hown.cellAt (at_ * 5 + 2) (by omega)]; exact hu
      have s1 : wb.frozen? ⟨g, at_ * 5 + 2, none⟩ = false := hown.frozenAt _
      have ha0 : (0 : Int) ≤ (at_ : Int) := by omega
      have ha1 : (at_ : Int) < (n : Int) := by omega
      have ha2 : (at_ : Int) ≤ 900 := by omega
      have HHE := Lib.hid he; have HXS := Lib.hid hxs; have HQ1 := Lib.hid q1
      clear hto hat HP2 hown hu hxs he q1 l0 l1 HW HBW HNW q4
      go_still_tail 17, (by kernel_rfl)
      change wpList _ _ _ _ _ wb.drew
      go_wp2
      have h9 : PlanAt wb X (.slice (some ⟨g, 0, none⟩) (finL M (Ls.take k) ps).length cap) (.slice (some ⟨g2, 0, none⟩) m cap2) mb Unit (finL M (Ls.take k) ps) M Ls := by rw [HXS.out]; exact HW2.out
      have h10 := h9.set (k := at_) (b := c - (at_ : Int)) (by rw [HXS.out]; exact HQ1.out)
      have htk : Ls.take (k + 1) = Ls.take k ++ [(at_, nm)] := by
        obtain ⟨hl9, he9⟩ := List.getElem?_eq_some_iff.1 HHE.out
        rw [List.take_succ_eq_append_getElem hl9, he9]
      have hfin : finL M (Ls.take (k + 1)) ps = setB (finL M (Ls.take k) ps) at_ (c - (at_ : Int)) := by rw [htk, finL_app, HTO.out]
      rw [HXS.out, ← hfin] at h10
      have hg1 := (HW2.out.own.lt g rfl).1
      refine ⟨⟨k + 1, by omega, by go_num, Lib.hid (h10.later (Below.refl _ _).drew), Lib.hid (HBW2.out.setCell (p := ⟨g, at_ * 5 + 2, none⟩) (by have := HLOW.out; show _ ≤ g; omega) _).drew⟩, by simp [intOf]; omega⟩
    · obtain rfl : k = m := by omega
      have cX : wr.cell? ⟨X, 0, none⟩ = some (.slice (some ⟨g, 0, none⟩) n cap) := Lib.cell_of_heap HW.out.mem 0
      have HOWN := Lib.hid HW.out.own
      have HTK : Hid (Ls.take k = Ls) := Lib.hid (List.take_of_length_le (by rw [HM.out]; exact Nat.le_refl _))
      rw [HTK.out] at HOWN
      go_wp2
      go_ret
      exact ⟨_, rfl, by have h9 := HOWN.out; rw [finL_len, HN.out] at h9 ⊢; exact h9, HBW.out⟩
end Go.Proofs.YtkpfocgcnehajabGreatDoor
