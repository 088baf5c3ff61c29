/- Package run: Step. By an AI agent. -/
import Derived.Test.YtkpfocgcnehajaaVState
import Derived.Test.YtkpfocgcnehajaaNeeded
import Derived.Test.YtkpfocgcnehajaaRunB
namespace Go.Proofs.Ytkpfocgcnehajaa
open Go.RowKit Pl

theorem St.reg_put {s : St} {a : Int} {t : Tr} (h : a.toNat < s.regs.length) : (s.put a t).reg a = t := by
  simp [St.put, St.reg, h]
theorem set_same_reg {s : St} {a : Int} (h : a.toNat < s.regs.length) : s.regs.set a.toNat (s.reg a) = s.regs := by
  apply List.ext_getElem?
  intro j
  by_cases e : j = a.toNat
  · subst e; rw [List.getElem?_set_self h]; simp [St.reg, h]
  · rw [List.getElem?_set_ne (fun h => e h.symm)]
/-- a step depends on the registers that it needs -/
theorem stepI_needs {x : Ins} {s s1 : St} (ha : s1.at_ = s.at_) (h32 : x.a.toNat < s.regs.length) (h1 : x.a.toNat < s1.regs.length) (hn : ∀ r ∈ needs x, s1.reg r = s.reg r) (ho : x.op = 0 ∨ x.op = 1 ∨ x.op = 2 ∨ x.op = 3 ∨ x.op = 4 ∨ x.op = 5) :
    match stepI x s with
    | none => stepI x s1 = none
    | some s' => ∃ s1', stepI x s1 = some s1' ∧ s1'.at_ = s'.at_ ∧ s1'.reg x.a = s'.reg x.a ∧ s'.regs = s.regs.set x.a.toNat (s'.reg x.a) := by
  have put : ∀ t : Tr, ∃ s1', some (s1.put x.a t) = some s1' ∧ s1'.at_ = (s.put x.a t).at_ ∧ s1'.reg x.a = (s.put x.a t).reg x.a ∧ (s.put x.a t).regs = s.regs.set x.a.toNat ((s.put x.a t).reg x.a) := fun t => ⟨_, rfl, by simp [St.put, ha], by rw [St.reg_put h1, St.reg_put h32], by rw [St.reg_put h32]; rfl⟩
  unfold stepI
  rcases ho with h | h | h | h | h | h
  · simp only [h, if_true]; exact put _
  · have hb : s1.reg x.b = s.reg x.b := hn _ (by simp [needs, h])
    simp only [h]; simp only [hb]; exact put _
  · have hb : s1.reg x.b = s.reg x.b := hn _ (by simp [needs, h])
    have hc : s1.reg x.c = s.reg x.c := hn _ (by simp [needs, h])
    simp only [h]; simp only [hb, hc]
    by_cases hl : (tx ((s.reg x.b).pair (s.reg x.c))).length ≤ 2000000
    · simp only [hl]; exact put _
    · simp [hl]
  · have hb : s1.reg x.b = s.reg x.b := hn _ (by simp [needs, h])
    simp only [h]; simp only [hb]; exact put _
  · have hb : s1.reg x.b = s.reg x.b := hn _ (by simp [needs, h])
    simp only [h]; simp only [hb]; exact put _
  · have hb : s1.reg x.a = s.reg x.a := hn _ (by simp [needs, h])
    by_cases hl : s.reg x.a = .nil
    · have hl1 : s1.reg x.a = .nil := by rw [hb, hl]
      simp only [h, hl, hl1]
      exact ⟨_, rfl, by simp [ha], by show s1.reg x.a = s.reg x.a; exact hb, by show s.regs = s.regs.set x.a.toNat (s.reg x.a); rw [set_same_reg h32]⟩
    · have hl1 : ¬ s1.reg x.a = .nil := by rw [hb]; exact hl
      simp only [h, hl, hl1]
      exact ⟨_, rfl, by simp [ha], by show s1.reg x.a = s.reg x.a; exact hb, by show s.regs = s.regs.set x.a.toNat (s.reg x.a); rw [set_same_reg h32]⟩
/-- what Step returns of a state that does not fit, or in which the run has ended, or whose step is too large -/
def SNone (w : World) (k : Int) (e : Ending) (w' : World) : Prop := e = .returned (.tuple #[.agg #[.int .i64 0, .slice none 0 0], .int .i64 k]) ∧ Below w.heap.size w w'
/-- the boxes of Step: the state, and the result behind it -/
structure Bx (w : World) (a : Int) (S0 : Value) (W : World) : Prop where
  s0 : W.cell? ⟨w.heap.size, 0, none⟩ = some (.int .i64 a)
  s1 : W.cell? ⟨w.heap.size, 1, none⟩ = some S0
  c0 : W.cell? ⟨w.heap.size + 1, 0, none⟩ = some (.int .i64 0)
  c1 : W.cell? ⟨w.heap.size + 1, 1, none⟩ = some (.slice none 0 0)
  f0 : W.frozen? ⟨w.heap.size + 1, 0, none⟩ = false
  f1 : W.frozen? ⟨w.heap.size + 1, 1, none⟩ = false
  size : w.heap.size + 2 ≤ W.heap.size
  below : Below w.heap.size w W
def Bx.put (w W : World) (a b : Value) : World := (W.setCell ⟨w.heap.size + 1, 0, none⟩ a).setCell ⟨w.heap.size + 1, 1, none⟩ b
theorem bx_new (w : World) (a : Int) (S0 : Value) : Bx w a S0 ((w.alloc (.cells #[.int .i64 a, S0] 78)).alloc (.cells #[.int .i64 0, .slice none 0 0] 78)) := by
  have hb : Below (w.alloc (.cells #[.int .i64 a, S0] 78)).heap.size (w.alloc (.cells #[.int .i64 a, S0] 78)) ((w.alloc (.cells #[.int .i64 a, S0] 78)).alloc (.cells #[.int .i64 0, .slice none 0 0] 78)) := (Below.refl _ _).alloc (Nat.le_refl _) _
  have e1 : (w.alloc (.cells #[.int .i64 a, S0] 78)).heap.size = w.heap.size + 1 := by simp
  refine ⟨cell_keep hb (by rw [World.cell?_alloc_new]; rfl), cell_keep hb (by rw [World.cell?_alloc_new]; rfl), ?_, ?_, ?_, ?_, by simp, ((Below.refl _ _).alloc (Nat.le_refl _) _).alloc (by simp) _⟩
  · rw [← e1, World.cell?_alloc_new]; rfl
  · rw [← e1, World.cell?_alloc_new]; rfl
  · rw [← e1]; simp
  · rw [← e1]; simp
theorem Bx.later {w W W' : World} {a : Int} {S0 : Value} (h : Bx w a S0 W) (hb : Below W.heap.size W W') : Bx w a S0 W' :=
  ⟨cell_keep hb h.s0, cell_keep hb h.s1, cell_keep hb h.c0, cell_keep hb h.c1, (hb.frozen (p := ⟨w.heap.size + 1, 0, none⟩) h.size).trans h.f0, (hb.frozen (p := ⟨w.heap.size + 1, 1, none⟩) h.size).trans h.f1, Nat.le_trans h.size hb.size, h.below.trans (hb.mono (by have := h.size; omega))⟩
theorem Bx.set {w W : World} {a : Int} {S0 : Value} (h : Bx w a S0 W) (x y : Value) : (Bx.put w W x y).cell? ⟨w.heap.size + 1, 0, none⟩ = some x ∧ (Bx.put w W x y).cell? ⟨w.heap.size + 1, 1, none⟩ = some y ∧ Below w.heap.size w (Bx.put w W x y) := by
  unfold Bx.put
  refine ⟨?_, ?_, (h.below.setCell (p := ⟨w.heap.size + 1, 0, none⟩) (Nat.le_succ _) _).setCell (p := ⟨w.heap.size + 1, 1, none⟩) (Nat.le_succ _) _⟩
  · rw [set_other (addr_ne (by omega)), set_same h.c0]
  · refine set_same (u := .slice none 0 0) ?_
    rw [set_other (addr_ne (by omega)), h.c1]
set_option maxHeartbeats 1600000 in
set_option maxRecDepth 100000 in
theorem Step_form (w : World) (v S0 : Value) (ps : List Ins) (a : Int) (ls : List (List UInt8)) (h : ArgP w v ps) (hl : ps.length ≤ 281474976710656) (hz : ∀ x ∈ ps, x.tree.length ≤ 281474976710656) (hs : RegsP w S0 ls) (hsz : ∀ l ∈ ls, l.length ≤ 281474976710656) (hn : ¬ PValid ps ∨ ¬ SFits a ls ps.length) :
    Calls Try.prog 55 #[v, .agg #[.int .i64 a, S0]] w (SNone w 1) := by
  obtain ⟨A, cap, rfl⟩ : ∃ A cap, v = .slice A ps.length cap := by
    rcases h with ⟨rfl, h⟩ | ⟨_, b, off, cap, rfl, _⟩
    · obtain ⟨A, cap, rfl⟩ := empty_arg h
      exact ⟨A, cap, rfl⟩
    · exact ⟨_, _, rfl⟩
  obtain ⟨r, hr⟩ := pv_bool ps
  obtain ⟨q, hq⟩ := fits_bool a ls ps.length
  have HV := Lib.hid (fun W h => CV_arg W (.slice A ps.length cap) ps r h hl hz hr)
  have HX := Lib.hid (fun W h => vstate_any W a S0 ls ps.length q h hsz hq)
  have HA := Lib.hid h; have HR := Lib.hid hr; have HQ := Lib.hid hq; have HN := Lib.hid hn; have HS := Lib.hid hs
  have h0 := bx_new w a S0
  clear hl hz h hr hn hs hsz hq
  generalize ps.length = n at *
  go_enter Try.func55, Try.ntmps55
  go_wp2_with fail
  refine (HV.out _ (HA.out.below h0.below)).mono ?_
  rintro e w1 ⟨rfl, hb1⟩
  have h1 := h0.later hb1
  clear hb1 h0
  cases hrb : r with
  | false =>
    clear hrb
    obtain ⟨p0, p1, pb⟩ := h1.set (.int .i64 0) (.slice none 0 0)
    have P0 := Lib.hid p0; have P1 := Lib.hid p1; have PB := Lib.hid pb
    unfold Bx.put at P0 P1 PB
    obtain ⟨s0, s1, c0, c1, f0, f1, hs, _⟩ := h1
    clear p0 p1 pb
    go_wp2
    exact bodyPost_ret (v := .tuple #[.agg #[.int .i64 0, .slice none 0 0], .int .i64 1]) (by simp [results, Try.f55, go_sem, P0.out, P1.out]) rfl ⟨rfl, PB.out⟩
  | true =>
    have hqf : q = false := by
      cases q with
      | false => rfl
      | true => exact absurd (HQ.out.1 rfl) (by rcases HN.out with h | h; exact absurd (HR.out.1 hrb) h; exact h)
    subst hqf
    clear hrb
    have s0 := h1.s0; have s1 := h1.s1
    go_wp2_with fail
    refine (HX.out _ (HS.out.below h1.below)).mono ?_
    rintro e w2 ⟨rfl, hb2⟩
    have h2 := h1.later hb2
    clear hb2 h1 s0 s1
    obtain ⟨p0, p1, pb⟩ := h2.set (.int .i64 0) (.slice none 0 0)
    have P0 := Lib.hid p0; have P1 := Lib.hid p1; have PB := Lib.hid pb
    unfold Bx.put at P0 P1 PB
    obtain ⟨s0, s1, c0, c1, f0, f1, hs, _⟩ := h2
    clear p0 p1 pb
    go_wp2
    exact bodyPost_ret (v := .tuple #[.agg #[.int .i64 0, .slice none 0 0], .int .i64 1]) (by simp [results, Try.f55, go_sem, P0.out, P1.out]) rfl ⟨rfl, PB.out⟩
set_option maxHeartbeats 1600000 in
set_option maxRecDepth 100000 in
theorem Step_end (w : World) (v S0 : Value) (ps : List Ins) (ls : List (List UInt8)) (h : ArgP w v ps) (hv : PValid ps) (hs : RegsP w S0 ls) (hf : SFits (ps.length : Int) ls ps.length) :
    Calls Try.prog 55 #[v, .agg #[.int .i64 (ps.length : Int), S0]] w (SNone w 6) := by
  obtain ⟨A, cap, rfl⟩ : ∃ A cap, v = .slice A ps.length cap := by
    rcases h with ⟨rfl, h⟩ | ⟨_, b, off, cap, rfl, _⟩
    · obtain ⟨A, cap, rfl⟩ := empty_arg h
      exact ⟨A, cap, rfl⟩
    · exact ⟨_, _, rfl⟩
  have HV := Lib.hid (fun W h => CV_arg W (.slice A ps.length cap) ps true h (by have := hv.1; omega) (fun x hx => by have := PV_tree_le hv hx; omega) (by simp [hv]))
  have HX := Lib.hid (fun W h => vstate_any W (ps.length : Int) S0 ls ps.length true h (fun l hl => by have := (vld_iff.1 (hf.2.2.2 l hl)).1; omega) (by simp [hf]))
  have HA := Lib.hid h; have HS := Lib.hid hs
  have h0 := bx_new w (ps.length : Int) S0
  clear hv h hs hf
  generalize ps.length = n at *
  go_enter Try.func55, Try.ntmps55
  go_wp2_with fail
  refine (HV.out _ (HA.out.below h0.below)).mono ?_
  rintro e w1 ⟨rfl, hb1⟩
  have h1 := h0.later hb1
  clear hb1 h0
  have s0 := h1.s0; have s1 := h1.s1
  go_wp2_with fail
  refine (HX.out _ (HS.out.below h1.below)).mono ?_
  rintro e w2 ⟨rfl, hb2⟩
  have h2 := h1.later hb2
  clear hb2 h1 s0 s1
  obtain ⟨p0, p1, pb⟩ := h2.set (.int .i64 0) (.slice none 0 0)
  have P0 := Lib.hid p0; have P1 := Lib.hid p1; have PB := Lib.hid pb
  unfold Bx.put at P0 P1 PB
  obtain ⟨s0, s1, c0, c1, f0, f1, hs, _⟩ := h2
  clear p0 p1 pb
  go_wp2
  exact bodyPost_ret (v := .tuple #[.agg #[.int .i64 0, .slice none 0 0], .int .i64 6]) (by simp [results, Try.f55, go_sem, P0.out, P1.out]) rfl ⟨rfl, PB.out⟩
end Go.Proofs.Ytkpfocgcnehajaa
