/- RunTouches: what a step changes; the mathematics, and Step as one contract. By an AI agent. -/
import Derived.Test.YtkpfocgcnehajaaTouch
import Derived.Test.YtkpfocgcnehajaaBld4
namespace Go.Proofs.Ytkpfocgcnehajaa
open Go.RowKit Pl

theorem srow_all {w : World} {B : Nat} {ls : List (List UInt8)} (h : StrRow w B 0 32 ls) (hl : ls.length = 32) : StrAt w B 0 ls := ⟨h.1, fun j hj => h.2 j (by omega)⟩
/-- what a step changes -/
def Tou (ps : List Ins) (ls ts : List (List UInt8)) : Prop := ts.length = 32 ∧ ∃ q, q < 32 ∧ (∀ j, j < 32 → j ≠ q → ts.getD j [] = ls.getD j []) ∧ (ts.getD q [] ≠ ls.getD q [] → ∃ (i : Nat) (x : Ins), ps[i]? = some x ∧ x.op ≠ 5 ∧ x.a = (q : Int))
theorem tou_step {ps : List Ins} {a : Nat} {ls : List (List UInt8)} {s : St} (hv : PValid ps) (h32 : ls.length = 32) (hf : ∀ l ∈ ls, vld l = true) (ha : a < ps.length) (h : stepP ps (stOf a ls) = some s) : s.at_ ≤ ps.length ∧ Tou ps ls (regTexts s) := by
  have hok : s.ok ps.length := stepP_ok hv (stOf_ok (Nat.le_of_lt ha) h32 hf) h
  obtain ⟨x, hx⟩ : ∃ x, ps[a]? = some x := ⟨ps[a], List.getElem?_eq_getElem ha⟩
  have hr := hv.2.2 a x hx
  obtain ⟨⟨q, hq, hqa⟩, ho⟩ := right_a hr
  have hstep : stepI x (stOf a ls) = some s := by
    have h' := h
    unfold stepP at h'
    rw [show (stOf a ls).at_ = a from rfl, hx] at h'
    exact h'
  have hregs : s.regs = ls.map rd ∨ (x.op ≠ 5 ∧ ∃ t, s.regs = (ls.map rd).set q t) := by
    have hqn : x.a.toNat = q := by omega
    unfold stepI at hstep
    have put : ∀ t, (some ((stOf a ls).put x.a t) = some s) → s.regs = (ls.map rd).set q t := fun t e => by
      cases e; simp [St.put, stOf, hqn]
    rcases ho with h0 | h0 | h0 | h0 | h0 | h0 <;> simp only [h0] at hstep
    · exact .inr ⟨by omega, _, put _ (by simpa using hstep)⟩
    · exact .inr ⟨by omega, _, put _ (by simpa using hstep)⟩
    · refine .inr ⟨by omega, ?_⟩
      simp at hstep
      exact ⟨_, put _ (by rw [hstep.2])⟩
    · exact .inr ⟨by omega, _, put _ (by simpa using hstep)⟩
    · exact .inr ⟨by omega, _, put _ (by simpa using hstep)⟩
    · left
      simp at hstep
      split at hstep <;> (cases hstep; rfl)
  refine ⟨hok.1, by simp [regTexts, hok.2.1], ?_⟩
  rcases hregs with hs | ⟨h5, t, hs⟩
  · have e : ∀ j, j < 32 → (regTexts s).getD j [] = ls.getD j [] := fun j hj => by
      unfold regTexts
      rw [hs]
      simp [List.getD, h32, hj]
      exact tx_rd (hf _ (List.getElem_mem _))
    exact ⟨0, by omega, fun j hj _ => e j hj, fun hne => absurd (e 0 (by omega)) hne⟩
  · refine ⟨q, hq, fun j hj hne => ?_, fun _ => ⟨a, x, hx, h5, hqa⟩⟩
    rw [regs_text h32 hf hq hs hj, if_neg hne]
/-- Step's results -/
def RT (E : Int) (k : Nat) (ts : List (List UInt8)) (w : World) (x y : Value) : Prop := E = 0 → x = .int .i64 (k : Int) ∧ ∃ B, y = .slice (some ⟨B, 0, none⟩) 32 32 ∧ StrAt w B 0 ts
theorem RT.below {E : Int} {k : Nat} {ts : List (List UInt8)} {w w' : World} {x y : Value} (h : RT E k ts w x y) (hb : Below w.heap.size w w') : RT E k ts w' x y := fun e => by
  obtain ⟨h1, B, h2, h3⟩ := h e
  exact ⟨h1, B, h2, h3.below hb⟩
theorem RT.put {E : Int} {k : Nat} {ts : List (List UInt8)} {w : World} {x y u v : Value} {g : Nat} (h : RT E k ts w x y) (ht : E = 0 → 0 < ts.length) (hg : w.cell? ⟨g, 0, none⟩ = some (.int .i64 0)) : RT E k ts ((w.setCell ⟨g, 0, none⟩ u).setCell ⟨g, 1, none⟩ v) x y := fun e => by
  obtain ⟨h1, B, h2, h3⟩ := h e
  have hne : g ≠ B := by
    rintro rfl
    have := h3.2 0 (ht e)
    rw [Nat.add_zero, hg] at this
    cases this
  have e1 : ∀ o j, (⟨g, o, none⟩ : Addr) ≠ ⟨B, 0 + j, none⟩ := fun o j e => by injection e with e1; exact hne e1
  exact ⟨h1, B, h2, by simpa using h3.1, fun j hj => by rw [set_other (e1 _ _), set_other (e1 _ _)]; exact h3.2 j hj⟩
def SV (x y : Value) : Prop := ∃ i a n c, x = .int .i64 i ∧ y = .slice a n c
def TStep (w : World) (E : Int) (k : Nat) (ts : List (List UInt8)) (e : Ending) (w' : World) : Prop := Below w.heap.size w w' ∧ ∃ x y, e = .returned (.tuple #[.agg #[x, y], .int .i64 E]) ∧ RT E k ts w' x y ∧ SV x y
theorem Step_fit (a : Nat) (ps : List Ins) (ls : List (List UInt8)) (hv : PValid ps) (h32 : ls.length = 32) (hf : ∀ l ∈ ls, vld l = true) (ha : a ≤ ps.length) :
    ∃ (E : Int) (k : Nat) (ts : List (List UInt8)), (E = 6 ∨ E = 3 ∨ (E = 0 ∧ k ≤ ps.length ∧ Tou ps ls ts)) ∧
      ∀ W v g c, ArgP W v ps → StrAt W g 0 ls → Calls Try.prog 55 #[v, .agg #[.int .i64 (a : Int), .slice (some ⟨g, 0, none⟩) ls.length c]] W (TStep W E k ts) := by
  rcases Nat.eq_or_lt_of_le ha with rfl | hlt
  · refine ⟨6, 0, [], .inl rfl, fun W v g c hA hS => ?_⟩
    refine (Step_end W v _ ps ls hA hv (.inr ⟨by omega, g, 0, c, rfl, hS⟩) ⟨by omega, Int.le_refl _, h32, hf⟩).mono fun e w' h => ?_
    obtain ⟨h1, h2⟩ := h
    exact ⟨h2, _, _, h1, (fun h => by cases h), _, _, _, _, rfl, rfl⟩
  · cases hs : stepP ps (stOf a ls) with
    | none =>
      refine ⟨3, 0, [], .inr (.inl rfl), fun W v g c hA hS => ?_⟩
      rcases hA with ⟨rfl, _⟩ | ⟨_, b, off, cap, rfl, hP⟩
      · simp at hlt
      rw [h32]
      refine (Step_main W b off cap g 0 c a ps ls hP hv hS h32 hf hlt).mono fun e w' h => ?_
      unfold SOut at h
      rw [hs] at h
      obtain ⟨h1, h2⟩ := h
      exact ⟨h2, _, _, h1, (fun h => by cases h), _, _, _, _, rfl, rfl⟩
    | some s =>
      have hm := tou_step hv h32 hf hlt hs
      refine ⟨0, s.at_, regTexts s, .inr (.inr ⟨rfl, hm⟩), fun W v g c hA hS => ?_⟩
      rcases hA with ⟨rfl, _⟩ | ⟨_, b, off, cap, rfl, hP⟩
      · simp at hlt
      rw [h32]
      refine (Step_main W b off cap g 0 c a ps ls hP hv hS h32 hf hlt).mono fun e w' h => ?_
      unfold SOut at h
      rw [hs] at h
      obtain ⟨h1, B, h2, _, h3⟩ := h
      exact ⟨h1, _, _, h2, fun _ => ⟨rfl, B, rfl, srow_all h3 hm.2.1⟩, _, _, _, _, rfl, rfl⟩
end Go.Proofs.Ytkpfocgcnehajaa
