/- Package run: a machine in memory, and its step. By an AI agent. -/
import Derived.Test.YtpiahjbpidcjpaaStep
namespace Go.Proofs.Ytpiahjbpidcjpaa
open Go.RowKit Pl

/-- only block M has changed, and there may be new ones -/
structure But (M : Nat) (w w' : World) : Prop where
  os : w'.os = w.os
  tape : w'.tape = w.tape
  output : w'.output = w.output
  size : w.heap.size ≤ w'.heap.size
  block : ∀ k, k < w.heap.size → k ≠ M → w'.heap[k]? = w.heap[k]?
theorem But.refl (M : Nat) (w : World) : But M w w := ⟨rfl, rfl, rfl, Nat.le_refl _, fun _ _ _ => rfl⟩
theorem But.trans {M : Nat} {a b c : World} (h : But M a b) (k : But M b c) : But M a c :=
  ⟨k.os.trans h.os, k.tape.trans h.tape, k.output.trans h.output, Nat.le_trans h.size k.size, fun x hx hM => (k.block x (Nat.lt_of_lt_of_le hx h.size) hM).trans (h.block x hx hM)⟩
theorem But.of_below {M : Nat} {w w' : World} (h : Below w.heap.size w w') : But M w w' := ⟨h.os, h.tape, h.output, h.size, fun k hk _ => h.block k hk⟩
theorem But.set {M o : Nat} (w : World) (v : Value) : But M w (w.setCell ⟨M, o, none⟩ v) :=
  ⟨rfl, rfl, rfl, by simp [World.setCell], fun k _ hM => Below.heap_setCell w _ v k hM⟩
theorem But.below {M B : Nat} {w w' : World} (h : But M w w') (hB : B ≤ M) (hs : B ≤ w.heap.size) : Below B w w' :=
  ⟨h.os, h.tape, h.output, h.size, fun k hk => h.block k (by omega) (by omega)⟩
theorem But.cell {M : Nat} {w w' : World} (h : But M w w') {p : Addr} (hp : p.block ≠ M) {v : Value} (hv : w.cell? p = some v) : w'.cell? p = some v :=
  (World.cell?_of_block (h.block p.block (cell_lt hv) hp)).trans hv
theorem But.keepT {M : Nat} {τ : TypeId} {w w' : World} (h : But M w w') (hM : ¬ TagB w M τ) : KeepT τ w w' :=
  ⟨h.size, fun b hb => h.block b hb.lt (fun e => hM (e ▸ hb))⟩
/-- a machine of a program in memory -/
structure Mach (w : World) (n0 M C : Nat) (ps : List Ins) (s : St) : Prop where
  prog : ∃ v, w.cell? ⟨M, 0, none⟩ = some v ∧ ArgP w v ps ∧ ∀ k, 0 < ps.length → v.ownBlock = some k → k < n0
  consts : w.cell? ⟨M, 1, none⟩ = some (.slice (some ⟨C, 0, none⟩) ps.length ps.length)
  place : w.cell? ⟨M, 2, none⟩ = some (.int .i64 (s.at_ : Int))
  regs : ∀ r, r < 32 → ∃ x, w.cell? ⟨M, 3 + r, none⟩ = some x ∧ NodeW 151 w (s.regs[r]?.getD .nil) x
  trees : ∀ k x, ps[k]? = some x → x.op = 0 → ∃ y, w.cell? ⟨C, k, none⟩ = some y ∧ NodeW 151 w (rd x.tree) y
  tagM : TagB w M 106
  free : ∀ o, w.frozen? ⟨M, o, none⟩ = false
  tagC : TagB w C 103
  old : n0 ≤ M ∧ n0 ≤ w.heap.size
theorem ArgP.keep {w w' : World} {v : Value} {ps : List Ins} {n0 : Nat} (h : ArgP w v ps) (hb : ∀ k, 0 < ps.length → v.ownBlock = some k → k < n0) (hk : ∀ k, k < n0 → w'.heap[k]? = w.heap[k]?) (hs : w.heap.size ≤ w'.heap.size) : ArgP w' v ps := by
  rcases h with h | ⟨h0, b, off, cap, rfl, hlt, hc⟩
  · exact .inl h
  · have hbn := hb b h0 rfl
    have hcell : ∀ o, w'.cell? ⟨b, o, none⟩ = w.cell? ⟨b, o, none⟩ := fun o => World.cell?_of_block (w := w) (a := ⟨b, o, none⟩) (hk b hbn)
    refine .inr ⟨h0, b, off, cap, rfl, Nat.lt_of_lt_of_le hlt hs, fun k x hx => ?_⟩
    obtain ⟨a0, a1, a2, a3, a4⟩ := hc k x hx
    exact ⟨(hcell _).trans a0, (hcell _).trans a1, (hcell _).trans a2, (hcell _).trans a3, (hcell _).trans a4⟩
theorem Mach.keep {w w' : World} {n0 M C : Nat} {ps : List Ins} {s : St} (h : Mach w n0 M C ps s) (hs : w.heap.size ≤ w'.heap.size)
    (hk : ∀ k, k < w.heap.size → (k < n0 ∨ k = M ∨ TagB w k 103 ∨ TagB w k 151) → w'.heap[k]? = w.heap[k]?) : Mach w' n0 M C ps s := by
  have hM : ∀ o, w'.cell? ⟨M, o, none⟩ = w.cell? ⟨M, o, none⟩ := fun o => World.cell?_of_block (w := w) (a := ⟨M, o, none⟩) (hk M h.tagM.lt (.inr (.inl rfl)))
  have hC : ∀ o, w'.cell? ⟨C, o, none⟩ = w.cell? ⟨C, o, none⟩ := fun o => World.cell?_of_block (w := w) (a := ⟨C, o, none⟩) (hk C h.tagC.lt (.inr (.inr (.inl h.tagC))))
  have hN : KeepT 151 w w' := ⟨hs, fun b hb => hk b hb.lt (.inr (.inr (.inr hb)))⟩
  refine ⟨?_, (hM _).trans h.consts, (hM _).trans h.place, fun r hr => ?_, fun k x hx h0 => ?_, ?_, fun o => ?_, ?_, h.old.1, Nat.le_trans h.old.2 hs⟩
  · obtain ⟨v, h1, h2, h3⟩ := h.prog
    exact ⟨v, (hM _).trans h1, h2.keep h3 (fun k hkn => hk k (by have := h.old.2; omega) (.inl hkn)) hs, h3⟩
  · obtain ⟨x, h1, h2⟩ := h.regs r hr
    exact ⟨x, (hM _).trans h1, NodeW.keep h2 hN⟩
  · obtain ⟨y, h1, h2⟩ := h.trees k x hx h0
    exact ⟨y, (hC _).trans h1, NodeW.keep h2 hN⟩
  · obtain ⟨D, fr, h1⟩ := h.tagM
    exact ⟨D, fr, by rw [hk M h.tagM.lt (.inr (.inl rfl)), h1]⟩
  · exact (World.frozen?_of_block (w := w) (a := ⟨M, o, none⟩) (hk M h.tagM.lt (.inr (.inl rfl)))).trans (h.free o)
  · obtain ⟨D, fr, h1⟩ := h.tagC
    exact ⟨D, fr, by rw [hk C h.tagC.lt (.inr (.inr (.inl ⟨D, fr, h1⟩))), h1]⟩
theorem Mach.below {w w' : World} {n0 M C : Nat} {ps : List Ins} {s : St} (h : Mach w n0 M C ps s) (hb : Below w.heap.size w w') : Mach w' n0 M C ps s :=
  h.keep hb.size fun k hk _ => hb.block k hk
theorem tag_set {w : World} {b : Nat} {τ : TypeId} (h : TagB w b τ) (a : Addr) (v : Value) : TagB (w.setCell a v) b τ := by
  obtain ⟨D, fr, h1⟩ := h
  by_cases e : b = a.block
  · subst e
    refine ⟨if a.spot.isSome then D else D.setIfInBounds a.off v, fr, ?_⟩
    simp [World.setCell, Array.getElem?_modify, h1]
  · exact ⟨D, fr, by rw [Below.heap_setCell _ _ _ _ e]; exact h1⟩
theorem set_same {w : World} {a : Addr} {u v : Value} (h : w.cell? a = some u) : (w.setCell a v).cell? a = some v := World.cell?_setCell_same w a v h
theorem set_other {w : World} {a b : Addr} {v : Value} (h : a ≠ b) : (w.setCell a v).cell? b = w.cell? b := World.cell?_setCell_other w a b v h
theorem addr_ne {M o o' : Nat} (h : o ≠ o') : (⟨M, o, none⟩ : Addr) ≠ ⟨M, o', none⟩ := fun e => h (by injection e)
theorem tag_three {w : World} {b : Nat} {σ τ : TypeId} (h : TagB w b σ) (k : TagB w b τ) : σ = τ := by
  by_cases e : σ = τ
  · exact e
  · exact absurd k (h.ne e)
/-- a register has been written, and the place -/
theorem Mach.put {w w1 : World} {n0 M C : Nat} {ps : List Ins} {s : St} (h : Mach w n0 M C ps s) (hb : Below w.heap.size w w1) (hr : s.regs.length = 32) {t : Tr} {v : Value} (hv : NodeW 151 w1 t v) {a : Nat} (ha : a < 32) :
    Mach ((w1.setCell ⟨M, 3 + a, none⟩ v).setCell ⟨M, 2, none⟩ (.int .i64 ((s.at_ + 1 : Nat) : Int))) n0 M C ps (s.put a t) ∧ But M w ((w1.setCell ⟨M, 3 + a, none⟩ v).setCell ⟨M, 2, none⟩ (.int .i64 ((s.at_ + 1 : Nat) : Int))) := by
  have h1 := h.below hb
  have hbut : But M w1 ((w1.setCell ⟨M, 3 + a, none⟩ v).setCell ⟨M, 2, none⟩ (.int .i64 ((s.at_ + 1 : Nat) : Int))) := (But.set w1 v).trans (But.set _ _)
  generalize hw2 : (w1.setCell ⟨M, 3 + a, none⟩ v).setCell ⟨M, 2, none⟩ (.int .i64 ((s.at_ + 1 : Nat) : Int)) = w2 at *
  have hKN : KeepT 151 w1 w2 := hbut.keepT (h1.tagM.ne (by decide))
  have hKC : KeepT 103 w1 w2 := hbut.keepT (h1.tagM.ne (by decide))
  have hMC : C ≠ M := fun e => by have := tag_three h1.tagC (e ▸ h1.tagM); exact absurd this (by decide)
  obtain ⟨x0, hx0, _⟩ := h1.regs a ha
  have hother : ∀ o, o ≠ 2 → o ≠ 3 + a → w2.cell? ⟨M, o, none⟩ = w1.cell? ⟨M, o, none⟩ := fun o e1 e2 => by
    rw [← hw2, set_other (addr_ne e1.symm), set_other (addr_ne e2.symm)]
  have hreg : w2.cell? ⟨M, 3 + a, none⟩ = some v := by
    rw [← hw2, set_other (addr_ne (by omega)), set_same hx0]
  have hpl : w2.cell? ⟨M, 2, none⟩ = some (.int .i64 ((s.at_ + 1 : Nat) : Int)) := by
    rw [← hw2]
    refine set_same (u := .int .i64 (s.at_ : Int)) ?_
    rw [set_other (addr_ne (by omega))]; exact h1.place
  refine ⟨⟨?_, ?_, hpl, fun r hr' => ?_, fun k x hx h0 => ?_, by rw [← hw2]; exact tag_set (tag_set h1.tagM _ _) _ _, fun o => ?_, h1.tagC.keep hKC, h1.old.1, Nat.le_trans h1.old.2 hbut.size⟩, (But.of_below hb).trans hbut⟩
  · obtain ⟨v0, g1, g2, g3⟩ := h1.prog
    exact ⟨v0, (hother 0 (by omega) (by omega)).trans g1, g2.keep g3 (fun k hk => hbut.block k (by have := h1.old.2; omega) (by have := h1.old.1; omega)) hbut.size, g3⟩
  · exact (hother 1 (by omega) (by omega)).trans h1.consts
  · by_cases e : r = a
    · subst e
      refine ⟨v, hreg, ?_⟩
      show NodeW _ w2 ((s.regs.set (r : Int).toNat t)[r]?.getD .nil) v
      rw [Int.toNat_natCast, List.getElem?_set_self (by omega)]
      exact NodeW.keep hv hKN
    · obtain ⟨x, g1, g2⟩ := h1.regs r hr'
      refine ⟨x, (hother _ (by omega) (by omega)).trans g1, ?_⟩
      show NodeW _ w2 ((s.regs.set (a : Int).toNat t)[r]?.getD .nil) x
      rw [Int.toNat_natCast, List.getElem?_set_ne (fun e' => e e'.symm)]
      exact NodeW.keep g2 hKN
  · obtain ⟨y, g1, g2⟩ := h1.trees k x hx h0
    exact ⟨y, hbut.cell (p := ⟨C, k, none⟩) hMC g1, NodeW.keep g2 hKN⟩
  · rw [← hw2, World.frozen?_setCell, World.frozen?_setCell]; exact h1.free o
/-- the place has been written -/
theorem Mach.go {w : World} {n0 M C : Nat} {ps : List Ins} {s : St} (h0 : Mach w n0 M C ps s) (q k : Nat) :
    Mach ((w.drewN q).setCell ⟨M, 2, none⟩ (.int .i64 (k : Int))) n0 M C ps ⟨k, s.regs⟩ ∧ But M w ((w.drewN q).setCell ⟨M, 2, none⟩ (.int .i64 (k : Int))) := by
  have hb : Below w.heap.size w (w.drewN q) := bdrewN (Below.refl _ _) q
  have h1 := h0.below hb
  generalize w.drewN q = w1 at *
  have hbut : But M w1 (w1.setCell ⟨M, 2, none⟩ (.int .i64 (k : Int))) := But.set _ _
  generalize hw2 : w1.setCell ⟨M, 2, none⟩ (.int .i64 (k : Int)) = w2 at *
  have hKN : KeepT 151 w1 w2 := hbut.keepT (h1.tagM.ne (by decide))
  have hKC : KeepT 103 w1 w2 := hbut.keepT (h1.tagM.ne (by decide))
  have hMC : C ≠ M := fun e => by have := tag_three h1.tagC (e ▸ h1.tagM); exact absurd this (by decide)
  have hother : ∀ o, o ≠ 2 → w2.cell? ⟨M, o, none⟩ = w1.cell? ⟨M, o, none⟩ := fun o e1 => by
    rw [← hw2, set_other (addr_ne e1.symm)]
  have hpl : w2.cell? ⟨M, 2, none⟩ = some (.int .i64 (k : Int)) := by
    rw [← hw2]; exact set_same h1.place
  refine ⟨⟨?_, ?_, hpl, fun r hr' => ?_, fun k x hx h0 => ?_, by rw [← hw2]; exact tag_set h1.tagM _ _, fun o => ?_, h1.tagC.keep hKC, h1.old.1, Nat.le_trans h1.old.2 hbut.size⟩, (But.of_below hb).trans hbut⟩
  · obtain ⟨v0, g1, g2, g3⟩ := h1.prog
    exact ⟨v0, (hother 0 (by omega)).trans g1, g2.keep g3 (fun k hk => hbut.block k (by have := h1.old.2; omega) (by have := h1.old.1; omega)) hbut.size, g3⟩
  · exact (hother 1 (by omega)).trans h1.consts
  · obtain ⟨x, g1, g2⟩ := h1.regs r hr'
    exact ⟨x, (hother _ (by omega)).trans g1, NodeW.keep g2 hKN⟩
  · obtain ⟨y, g1, g2⟩ := h1.trees k x hx h0
    exact ⟨y, hbut.cell (p := ⟨C, k, none⟩) hMC g1, NodeW.keep g2 hKN⟩
  · rw [← hw2, World.frozen?_setCell]; exact h1.free o

/-- a register has been written -/
theorem Mach.reg {w1 : World} {n0 M C : Nat} {ps : List Ins} {s : St} (h1 : Mach w1 n0 M C ps s) (hr : s.regs.length = 32) {t : Tr} {v : Value} (hv : NodeW 151 w1 t v) {a : Nat} (ha : a < 32) :
    Mach (w1.setCell ⟨M, 3 + a, none⟩ v) n0 M C ps ⟨s.at_, s.regs.set a t⟩ ∧ But M w1 (w1.setCell ⟨M, 3 + a, none⟩ v) := by
  have hbut : But M w1 (w1.setCell ⟨M, 3 + a, none⟩ v) := But.set w1 v
  generalize hw2 : w1.setCell ⟨M, 3 + a, none⟩ v = w2 at *
  have hKN : KeepT 151 w1 w2 := hbut.keepT (h1.tagM.ne (by decide))
  have hKC : KeepT 103 w1 w2 := hbut.keepT (h1.tagM.ne (by decide))
  have hMC : C ≠ M := fun e => by have := tag_three h1.tagC (e ▸ h1.tagM); exact absurd this (by decide)
  obtain ⟨x0, hx0, _⟩ := h1.regs a ha
  have hother : ∀ o, o ≠ 3 + a → w2.cell? ⟨M, o, none⟩ = w1.cell? ⟨M, o, none⟩ := fun o e2 => by
    rw [← hw2, set_other (addr_ne e2.symm)]
  have hreg : w2.cell? ⟨M, 3 + a, none⟩ = some v := by rw [← hw2, set_same hx0]
  refine ⟨⟨?_, ?_, (hother 2 (by omega)).trans h1.place, fun r hr' => ?_, fun k x hx h0 => ?_, by rw [← hw2]; exact tag_set h1.tagM _ _, fun o => ?_, h1.tagC.keep hKC, h1.old.1, Nat.le_trans h1.old.2 hbut.size⟩, hbut⟩
  · obtain ⟨v0, g1, g2, g3⟩ := h1.prog
    exact ⟨v0, (hother 0 (by omega)).trans g1, g2.keep g3 (fun k hk => hbut.block k (by have := h1.old.2; omega) (by have := h1.old.1; omega)) hbut.size, g3⟩
  · exact (hother 1 (by omega)).trans h1.consts
  · by_cases e : r = a
    · subst e
      refine ⟨v, hreg, ?_⟩
      show NodeW _ w2 ((s.regs.set r t)[r]?.getD .nil) v
      rw [List.getElem?_set_self (by omega)]
      exact NodeW.keep hv hKN
    · obtain ⟨x, g1, g2⟩ := h1.regs r hr'
      refine ⟨x, (hother _ (by omega)).trans g1, ?_⟩
      show NodeW _ w2 ((s.regs.set a t)[r]?.getD .nil) x
      rw [List.getElem?_set_ne (fun e' => e e'.symm)]
      exact NodeW.keep g2 hKN
  · obtain ⟨y, g1, g2⟩ := h1.trees k x hx h0
    exact ⟨y, hbut.cell (p := ⟨C, k, none⟩) hMC g1, NodeW.keep g2 hKN⟩
  · rw [← hw2, World.frozen?_setCell]; exact h1.free o

/-- what a step does -/
def StepOut (w : World) (n0 M C : Nat) (ps : List Ins) (s : St) (e : Ending) (w' : World) : Prop :=
  But M w w' ∧ match stepP ps s with
    | some s' => e = .returned (.bool true) ∧ Mach w' n0 M C ps s'
    | none => e = .returned (.bool false) ∧ Mach w' n0 M C ps s
theorem StepOut.of_to {w w' : World} {n0 M C : Nat} {ps : List Ins} {s : St} {e : Ending} {t : Tr} {a : Nat} (hm : Mach w n0 M C ps s) (hr : s.regs.length = 32) (ha : a < 32) (h : StepTo w M a t (s.at_ + 1) e w') (hs : stepP ps s = some (s.put a t)) : StepOut w n0 M C ps s e w' := by
  obtain ⟨he, w1, v, hb, hv, rfl⟩ := h
  obtain ⟨h1, h2⟩ := hm.put hb hr hv ha
  refine ⟨h2, ?_⟩
  rw [hs]
  exact ⟨he, h1⟩
theorem StepOut.of_go {w w' : World} {n0 M C k : Nat} {ps : List Ins} {s : St} {e : Ending} {d : Int} (hm : Mach w n0 M C ps s) (h : StepGo w M d e w') (hd : d = (k : Int)) (hs : stepP ps s = some ⟨k, s.regs⟩) : StepOut w n0 M C ps s e w' := by
  subst hd
  obtain ⟨he, q, rfl⟩ := h
  obtain ⟨h1, h2⟩ := hm.go q k
  refine ⟨h2, ?_⟩
  rw [hs]
  exact ⟨he, h1⟩
theorem ArgP.some {w : World} {v : Value} {ps : List Ins} (h : ArgP w v ps) (h0 : 0 < ps.length) : ∃ b off cap, v = .slice (some ⟨b, off, none⟩) ps.length cap ∧ ProgAt w b off ps := by
  rcases h with ⟨rfl, _⟩ | ⟨_, h⟩
  · simp at h0
  · exact h
theorem step_any (w : World) (n0 M C : Nat) (ps : List Ins) (s : St) (hm : Mach w n0 M C ps s) (hv : PValid ps) (hs : s.ok ps.length) (hlt : s.at_ < ps.length) :
    Calls Try.prog 72 #[.pointer (some ⟨M, 0, none⟩)] w (StepOut w n0 M C ps s) := by
  obtain ⟨x, hx⟩ := get_at hlt
  have hn := hv.1
  obtain ⟨v, m0, hA, _⟩ := hm.prog
  obtain ⟨b, off, cap, rfl, hP⟩ := hA.some (by omega)
  obtain ⟨i0, i1, i2, i3, _⟩ := hP.2 s.at_ x hx
  have hr := hv.2.2 s.at_ x hx
  have hreg : reg x.a = true := by unfold right at hr; simp only [Bool.and_eq_true] at hr; exact hr.1.1.1
  obtain ⟨a, ha, ha32⟩ : ∃ a : Nat, x.a = (a : Int) ∧ a < 32 := by have := reg_true hreg; exact ⟨x.a.toNat, by omega, by omega⟩
  obtain ⟨old, ho, hnO⟩ := hm.regs a ha32
  have f1 := hm.free (3 + a)
  have f2 := hm.free 2
  have m1 := hm.consts
  have m2 := hm.place
  rw [ha] at i1
  have hS : stepP ps s = stepI x s := by unfold stepP; rw [hx]; rfl
  have regB : ∀ n : Int, reg n = true → ∃ B : Nat, n = (B : Int) ∧ B < 32 ∧ ∃ X, w.cell? ⟨M, 3 + B, none⟩ = some (.pointer X) ∧ NodeW 151 w (s.reg n) (.pointer X) := fun n hn => by
    have := reg_true hn
    obtain ⟨y, h1, h2⟩ := hm.regs n.toNat (by omega)
    obtain ⟨Y, rfl⟩ := h2.one
    exact ⟨n.toNat, by omega, by omega, Y, h1, h2⟩
  unfold right at hr
  simp only [Bool.and_eq_true] at hr
  have hr2 := hr.2
  by_cases h0 : x.op = 0
  · rw [h0] at i0
    obtain ⟨y, hc, hN⟩ := hm.trees s.at_ x hx h0
    obtain ⟨Y, rfl⟩ := hN.one
    exact (step_set w M C b off ps.length cap s.at_ a (rd x.tree) Y old hlt hn ha32 m0 m1 m2 i0 i1 ho f1 f2 hc hN).mono fun e w' h => .of_to hm hs.2.1 ha32 h (by rw [hS]; unfold stepI; rw [if_pos h0, ha])
  rw [if_neg h0] at hr2
  by_cases h1 : x.op = 1
  · rw [h1] at i0
    rw [if_pos (.inl h1)] at hr2
    obtain ⟨B, hB, hB32, Y, hb, hN⟩ := regB x.b hr2
    rw [hB] at i2
    exact (step_move w M C b off ps.length cap s.at_ a (s.reg x.b) Y old hlt hn ha32 m0 m1 m2 i0 i1 ho f1 f2 B hB32 i2 hb hN).mono fun e w' h => .of_to hm hs.2.1 ha32 h (by rw [hS]; unfold stepI; rw [if_neg h0, if_pos h1, ha])
  by_cases h3 : x.op = 3
  · rw [h3] at i0
    rw [if_pos (.inr (.inl h3))] at hr2
    obtain ⟨B, hB, hB32, Y, hb, hN⟩ := regB x.b hr2
    rw [hB] at i2
    exact (step_head w M C b off ps.length cap s.at_ a (s.reg x.b) Y old hlt hn ha32 m0 m1 m2 i0 i1 ho f1 f2 B hB32 i2 hb hN).mono fun e w' h => .of_to hm hs.2.1 ha32 h (by rw [hS]; unfold stepI; rw [if_neg h0, if_neg h1, if_neg (by omega), if_pos h3, ha])
  by_cases h4 : x.op = 4
  · rw [h4] at i0
    rw [if_pos (.inr (.inr h4))] at hr2
    obtain ⟨B, hB, hB32, Y, hb, hN⟩ := regB x.b hr2
    rw [hB] at i2
    exact (step_tail w M C b off ps.length cap s.at_ a (s.reg x.b) Y old hlt hn ha32 m0 m1 m2 i0 i1 ho f1 f2 B hB32 i2 hb hN).mono fun e w' h => .of_to hm hs.2.1 ha32 h (by rw [hS]; unfold stepI; rw [if_neg h0, if_neg h1, if_neg (by omega), if_neg h3, if_pos h4, ha])
  rw [if_neg (by omega)] at hr2
  by_cases h2 : x.op = 2
  · rw [h2] at i0
    rw [if_pos h2] at hr2
    simp only [Bool.and_eq_true] at hr2
    obtain ⟨B, hB, hB32, Y, hb, hN⟩ := regB x.b hr2.1
    obtain ⟨D, hD, hD32, Z, hd, hN2⟩ := regB x.c hr2.2
    rw [hB] at i2
    rw [hD] at i3
    by_cases hl : (tx (.pair (s.reg x.b) (s.reg x.c))).length ≤ 2000000
    · exact (step_cons w M C b off ps.length cap s.at_ a (s.reg x.b) (s.reg x.c) Y Z old hlt hn ha32 m0 m1 m2 i0 i1 ho f1 f2 B D hB32 hD32 i2 i3 hb hd hN hN2 hl).mono fun e w' h => .of_to hm hs.2.1 ha32 h (by rw [hS]; unfold stepI; rw [if_neg h0, if_neg h1, if_pos h2, if_pos hl, ha])
    · refine (step_large w M C b off ps.length cap s.at_ a (s.reg x.b) (s.reg x.c) Y Z old hlt hn ha32 m0 m1 m2 i0 i1 ho f1 f2 B D hB32 hD32 i2 i3 hb hd hN hN2 (St.reg_le hs _) (St.reg_le hs _) hl).mono fun e w' h => ?_
      obtain ⟨he, q, rfl⟩ := h
      have hb := bdrewN (Below.refl w.heap.size w) q
      refine ⟨But.of_below hb, ?_⟩
      have : stepP ps s = none := by rw [hS]; unfold stepI; rw [if_neg h0, if_neg h1, if_pos h2, if_neg hl]
      rw [this]
      exact ⟨he, hm.below hb⟩
  rw [if_neg h2] at hr2
  by_cases h5 : x.op = 5
  · rw [h5] at i0
    rw [if_pos h5] at hr2
    simp only [Bool.and_eq_true, decide_eq_true_eq] at hr2
    obtain ⟨B, hB, hB32, Y, hb, hN⟩ := regB x.a hreg
    obtain rfl : B = a := by omega
    cases Y with
    | none =>
      have hnil : s.reg x.a = .nil := by
        rcases hN.ptr with ⟨h, _⟩ | ⟨_, A, h⟩
        · exact h
        · cases h
      exact (step_stay w M C b off ps.length cap s.at_ B none old hlt hn ha32 m0 m1 m2 i0 i1 ho f1 f2 hb).mono fun e w' h => .of_go hm h (k := s.at_ + 1) (by omega) (by rw [hS]; unfold stepI; rw [if_neg h0, if_neg h1, if_neg h2, if_neg h3, if_neg h4, if_pos hnil])
    | some A =>
      have hne : s.reg x.a ≠ .nil := by
        rcases hN.ptr with ⟨_, h⟩ | ⟨h, _⟩
        · cases h
        · exact h
      exact (step_jump w M C b off ps.length cap s.at_ B A old hlt hn ha32 m0 m1 m2 i0 i1 ho f1 f2 x.b i2 hr2.1 hr2.2 hb).mono fun e w' h => .of_go hm h (k := ((s.at_ : Int) + x.b).toNat) (by omega) (by rw [hS]; unfold stepI; rw [if_neg h0, if_neg h1, if_neg h2, if_neg h3, if_neg h4, if_neg hne])
  · rw [if_neg h5] at hr2
    cases hr2
end Go.Proofs.Ytpiahjbpidcjpaa
