/- The reference's machine and state in memory, and its step. By an AI agent. -/
import Derived.Test.YtkpfocgcnehajabGreatDoorRStep
import Derived.Test.YtkpfocgcnehajabGreatDoorRunA
import Derived.Test.YtkpfocgcnehajabGreatDoorMth
namespace Go.Proofs.YtkpfocgcnehajabGreatDoor
open Go.RowKit Pl

/-- only the blocks s and R have changed, and there may be new ones -/
structure But2 (s R : Nat) (w w' : World) : Prop where
  os : w'.os = w.os
  tape : w'.tape = w.tape
  output : w'.output = w.output
  size : w.heap.size ≤ w'.heap.size
  block : ∀ k, k < w.heap.size → k ≠ s → k ≠ R → w'.heap[k]? = w.heap[k]?
theorem But2.trans {s R : Nat} {a b c : World} (h : But2 s R a b) (k : But2 s R b c) : But2 s R a c :=
  ⟨k.os.trans h.os, k.tape.trans h.tape, k.output.trans h.output, Nat.le_trans h.size k.size, fun x hx h1 h2 => (k.block x (Nat.lt_of_lt_of_le hx h.size) h1 h2).trans (h.block x hx h1 h2)⟩
theorem But2.of_below {s R : Nat} {w w' : World} (h : Below w.heap.size w w') : But2 s R w w' := ⟨h.os, h.tape, h.output, h.size, fun k hk _ _ => h.block k hk⟩
theorem But2.setS {s R o : Nat} (w : World) (v : Value) : But2 s R w (w.setCell ⟨s, o, none⟩ v) :=
  ⟨rfl, rfl, rfl, by simp [World.setCell], fun k _ hM _ => Below.heap_setCell w _ v k hM⟩
theorem But2.setR {s R o : Nat} (w : World) (v : Value) : But2 s R w (w.setCell ⟨R, o, none⟩ v) :=
  ⟨rfl, rfl, rfl, by simp [World.setCell], fun k _ _ hM => Below.heap_setCell w _ v k hM⟩
theorem But2.below {s R B : Nat} {w w' : World} (h : But2 s R w w') (h1 : B ≤ s) (h2 : B ≤ R) (hs : B ≤ w.heap.size) : Below B w w' :=
  ⟨h.os, h.tape, h.output, h.size, fun k hk => h.block k (by omega) (by omega) (by omega)⟩
theorem But2.keepT {s R : Nat} {τ : TypeId} {w w' : World} (h : But2 s R w w') (h1 : ¬ TagB w s τ) (h2 : ¬ TagB w R τ) : KeepT τ w w' :=
  ⟨h.size, fun b hb => h.block b hb.lt (fun e => h1 (e ▸ hb)) (fun e => h2 (e ▸ hb))⟩
/-- a machine of the reference's with a state -/
structure RM (w : World) (n0 m C s R : Nat) (ps : List Ins) (st : St) : Prop where
  prog : ∃ v, w.cell? ⟨m, 0, none⟩ = some v ∧ ArgP w v ps ∧ ∀ k, 0 < ps.length → v.ownBlock = some k → k < n0
  consts : w.cell? ⟨m, 1, none⟩ = some (.slice (some ⟨C, 0, none⟩) ps.length ps.length)
  trees : ∀ k x, ps[k]? = some x → x.op = 0 → ∃ y, w.cell? ⟨C, k, none⟩ = some y ∧ NodeW 72 w (rd x.tree) y
  place : w.cell? ⟨s, 0, none⟩ = some (.int .i64 (st.at_ : Int))
  regsv : ∃ rc, w.cell? ⟨s, 1, none⟩ = some (.slice (some ⟨R, 0, none⟩) 32 rc)
  regs : ∀ r, r < 32 → ∃ x, w.cell? ⟨R, r, none⟩ = some x ∧ NodeW 72 w (st.regs[r]?.getD .nil) x
  tagm : TagB w m 134
  tagC : TagB w C 33
  tagS : TagB w s 131
  tagR : TagB w R 33
  freeS : ∀ o, w.frozen? ⟨s, o, none⟩ = false
  freeR : ∀ o, w.frozen? ⟨R, o, none⟩ = false
  old : n0 ≤ s ∧ n0 ≤ R ∧ n0 ≤ w.heap.size ∧ C ≠ R
theorem cell_same {w w' : World} {b o : Nat} (h : w'.heap[b]? = w.heap[b]?) : w'.cell? ⟨b, o, none⟩ = w.cell? ⟨b, o, none⟩ := World.cell?_of_block (w := w) (a := ⟨b, o, none⟩) h
theorem frozen_same {w w' : World} {b o : Nat} (h : w'.heap[b]? = w.heap[b]?) : w'.frozen? ⟨b, o, none⟩ = w.frozen? ⟨b, o, none⟩ := World.frozen?_of_block (w := w) (a := ⟨b, o, none⟩) h
theorem RM.below {w w' : World} {n0 m C s R : Nat} {ps : List Ins} {st : St} (h : RM w n0 m C s R ps st) (hb : Below w.heap.size w w') : RM w' n0 m C s R ps st := by
  have hN : KeepT 72 w w' := KeepT.below hb
  have hP : KeepT 33 w w' := KeepT.below hb
  refine ⟨?_, cell_keep hb h.consts, fun k x hx h0 => ?_, cell_keep hb h.place, ?_, fun r hr => ?_, h.tagm.keep (KeepT.below hb), h.tagC.keep hP, h.tagS.keep (KeepT.below hb), h.tagR.keep hP, fun o => (frozen_same (hb.block s h.tagS.lt)).trans (h.freeS o), fun o => (frozen_same (hb.block R h.tagR.lt)).trans (h.freeR o), h.old.1, h.old.2.1, Nat.le_trans h.old.2.2.1 hb.size, h.old.2.2.2⟩
  · obtain ⟨v, h1, h2, h3⟩ := h.prog
    exact ⟨v, cell_keep hb h1, h2.below hb, h3⟩
  · obtain ⟨y, h1, h2⟩ := h.trees k x hx h0
    exact ⟨y, cell_keep hb h1, NodeW.keep h2 hN⟩
  · obtain ⟨rc, h1⟩ := h.regsv
    exact ⟨rc, cell_keep hb h1⟩
  · obtain ⟨x, h1, h2⟩ := h.regs r hr
    exact ⟨x, cell_keep hb h1, NodeW.keep h2 hN⟩
/-- what a change of the state's two blocks leaves of a machine -/
theorem RM.upd {w w' : World} {n0 m C s R : Nat} {ps : List Ins} {st st' : St} (h : RM w n0 m C s R ps st) (hb : But2 s R w w') (hp : w'.cell? ⟨s, 0, none⟩ = some (.int .i64 (st'.at_ : Int))) (hs1 : w'.cell? ⟨s, 1, none⟩ = w.cell? ⟨s, 1, none⟩)
    (hr : ∀ r, r < 32 → ∃ x, w'.cell? ⟨R, r, none⟩ = some x ∧ NodeW 72 w (st'.regs[r]?.getD .nil) x) (htS : TagB w' s 131) (htR : TagB w' R 33) (hfS : ∀ o, w'.frozen? ⟨s, o, none⟩ = false) (hfR : ∀ o, w'.frozen? ⟨R, o, none⟩ = false) :
    RM w' n0 m C s R ps st' := by
  have hN : KeepT 72 w w' := hb.keepT (h.tagS.ne (by decide)) (h.tagR.ne (by decide))
  have hm1 : m ≠ s := fun e => by have := tag_three h.tagm (e ▸ h.tagS); exact absurd this (by decide)
  have hm2 : m ≠ R := fun e => by have := tag_three h.tagm (e ▸ h.tagR); exact absurd this (by decide)
  have hc1 : C ≠ s := fun e => by have := tag_three h.tagC (e ▸ h.tagS); exact absurd this (by decide)
  have hM := fun o => cell_same (o := o) (hb.block m h.tagm.lt hm1 hm2)
  have hC := fun o => cell_same (o := o) (hb.block C h.tagC.lt hc1 h.old.2.2.2)
  refine ⟨?_, (hM _).trans h.consts, fun k x hx h0 => ?_, hp, ?_, fun r hr' => ?_, ?_, ?_, htS, htR, hfS, hfR, h.old.1, h.old.2.1, Nat.le_trans h.old.2.2.1 hb.size, h.old.2.2.2⟩
  · obtain ⟨v, h1, h2, h3⟩ := h.prog
    exact ⟨v, (hM _).trans h1, h2.keep h3 (fun k hk => hb.block k (by have := h.old.2.2.1; omega) (by have := h.old.1; omega) (by have := h.old.2.1; omega)) hb.size, h3⟩
  · obtain ⟨y, h1, h2⟩ := h.trees k x hx h0
    exact ⟨y, (hC _).trans h1, NodeW.keep h2 hN⟩
  · obtain ⟨rc, h1⟩ := h.regsv
    exact ⟨rc, hs1.trans h1⟩
  · obtain ⟨x, h1, h2⟩ := hr r hr'
    exact ⟨x, h1, NodeW.keep h2 hN⟩
  · obtain ⟨D, fr, h1⟩ := h.tagm
    exact ⟨D, fr, by rw [hb.block m h.tagm.lt hm1 hm2, h1]⟩
  · obtain ⟨D, fr, h1⟩ := h.tagC
    exact ⟨D, fr, by rw [hb.block C (TagB.lt ⟨D, fr, h1⟩) hc1 h.old.2.2.2, h1]⟩
theorem RM.ne {w : World} {n0 m C s R : Nat} {ps : List Ins} {st : St} (h : RM w n0 m C s R ps st) : R ≠ s := fun e => by have := tag_three h.tagR (e ▸ h.tagS); exact absurd this (by decide)
theorem RM.put {w w1 : World} {n0 m C s R : Nat} {ps : List Ins} {st : St} (h0 : RM w n0 m C s R ps st) (hb : Below w.heap.size w w1) (hl : st.regs.length = 32) {t : Tr} {v : Value} (hv : NodeW 72 w1 t v) {a : Nat} (ha : a < 32) :
    RM ((w1.setCell ⟨R, a, none⟩ v).setCell ⟨s, 0, none⟩ (.int .i64 ((st.at_ + 1 : Nat) : Int))) n0 m C s R ps (st.put a t) ∧ But2 s R w ((w1.setCell ⟨R, a, none⟩ v).setCell ⟨s, 0, none⟩ (.int .i64 ((st.at_ + 1 : Nat) : Int))) := by
  have h := h0.below hb
  have hRs := h.ne
  have hbut : But2 s R w1 ((w1.setCell ⟨R, a, none⟩ v).setCell ⟨s, 0, none⟩ (.int .i64 ((st.at_ + 1 : Nat) : Int))) := (But2.setR w1 v).trans (But2.setS _ _)
  have neb : ∀ {x y p q : Nat}, x ≠ y → (⟨x, p, none⟩ : Addr) ≠ ⟨y, q, none⟩ := fun hxy e => hxy (by injection e)
  refine ⟨h.upd hbut ?_ ?_ (fun r hr => ?_) (tag_set (tag_set h.tagS _ _) _ _) (tag_set (tag_set h.tagR _ _) _ _) (fun o => by rw [World.frozen?_setCell, World.frozen?_setCell]; exact h.freeS o) (fun o => by rw [World.frozen?_setCell, World.frozen?_setCell]; exact h.freeR o), (But2.of_below hb).trans hbut⟩
  · refine set_same (u := .int .i64 (st.at_ : Int)) ?_
    rw [set_other (neb hRs)]; exact h.place
  · rw [set_other (addr_ne (by omega)), set_other (neb hRs)]
  · by_cases e : r = a
    · subst e
      obtain ⟨x0, g1, _⟩ := h.regs r hr
      refine ⟨v, by rw [set_other (neb hRs.symm), set_same g1], ?_⟩
      show NodeW _ w1 ((st.regs.set (r : Int).toNat t)[r]?.getD .nil) v
      rw [Int.toNat_natCast, List.getElem?_set_self (by omega)]
      exact hv
    · obtain ⟨x, g1, g2⟩ := h.regs r hr
      refine ⟨x, by rw [set_other (neb hRs.symm), set_other (addr_ne (fun e' => e e'.symm))]; exact g1, ?_⟩
      show NodeW _ w1 ((st.regs.set (a : Int).toNat t)[r]?.getD .nil) x
      rw [Int.toNat_natCast, List.getElem?_set_ne (fun e' => e e'.symm)]
      exact g2
theorem RM.go {w w1 : World} {n0 m C s R : Nat} {ps : List Ins} {st : St} (h0 : RM w n0 m C s R ps st) (hb : Below w.heap.size w w1) (k : Nat) :
    RM (w1.setCell ⟨s, 0, none⟩ (.int .i64 (k : Int))) n0 m C s R ps ⟨k, st.regs⟩ ∧ But2 s R w (w1.setCell ⟨s, 0, none⟩ (.int .i64 (k : Int))) := by
  have h := h0.below hb
  have hRs := h.ne
  have hbut : But2 s R w1 (w1.setCell ⟨s, 0, none⟩ (.int .i64 (k : Int))) := But2.setS _ _
  have neb : ∀ {x y p q : Nat}, x ≠ y → (⟨x, p, none⟩ : Addr) ≠ ⟨y, q, none⟩ := fun hxy e => hxy (by injection e)
  refine ⟨h.upd hbut (set_same h.place) ?_ (fun r hr => ?_) (tag_set h.tagS _ _) (tag_set h.tagR _ _) (fun o => by rw [World.frozen?_setCell]; exact h.freeS o) (fun o => by rw [World.frozen?_setCell]; exact h.freeR o), (But2.of_below hb).trans hbut⟩
  · rw [set_other (addr_ne (by omega))]
  · obtain ⟨x, g1, g2⟩ := h.regs r hr
    exact ⟨x, by rw [set_other (neb hRs.symm)]; exact g1, g2⟩
/-- what a step does -/
def RStepOut (w : World) (n0 m C s R : Nat) (ps : List Ins) (st : St) (e : Ending) (w' : World) : Prop :=
  But2 s R w w' ∧ match stepP ps st with
    | some st' => e = .returned (.bool true) ∧ RM w' n0 m C s R ps st'
    | none => e = .returned (.bool false) ∧ RM w' n0 m C s R ps st
theorem RStepOut.of_to {w w' : World} {n0 m C s R : Nat} {ps : List Ins} {st : St} {e : Ending} {t : Tr} {a : Nat} (hm : RM w n0 m C s R ps st) (hr : st.regs.length = 32) (ha : a < 32) (h : RStepTo w s R a t (st.at_ + 1) e w') (hs : stepP ps st = some (st.put a t)) : RStepOut w n0 m C s R ps st e w' := by
  obtain ⟨he, w1, v, hb, hv, rfl⟩ := h
  obtain ⟨h1, h2⟩ := hm.put hb hr hv ha
  refine ⟨h2, ?_⟩
  rw [hs]
  exact ⟨he, h1⟩
theorem RStepOut.of_go {w w' : World} {n0 m C s R k : Nat} {ps : List Ins} {st : St} {e : Ending} {d : Int} (hm : RM w n0 m C s R ps st) (h : RStepGo w s d e w') (hd : d = (k : Int)) (hs : stepP ps st = some ⟨k, st.regs⟩) : RStepOut w n0 m C s R ps st e w' := by
  subst hd
  obtain ⟨he, w1, hb, rfl⟩ := h
  obtain ⟨h1, h2⟩ := hm.go hb k
  refine ⟨h2, ?_⟩
  rw [hs]
  exact ⟨he, h1⟩
theorem rstep_any (w : World) (n0 m C s R : Nat) (ps : List Ins) (st : St) (hm : RM w n0 m C s R ps st) (hv : PValid ps) (hs : st.ok ps.length) (hlt : st.at_ < ps.length) :
    Calls Tryz.prog 82 #[.pointer (some ⟨m, 0, none⟩), .pointer (some ⟨s, 0, none⟩)] w (RStepOut w n0 m C s R ps st) := by
  obtain ⟨x, hx⟩ := get_at hlt
  have hn := hv.1
  obtain ⟨v, m0, hA, _⟩ := hm.prog
  obtain ⟨b, off, cap, rfl, hP⟩ := hA.some (by omega)
  obtain ⟨i0, i1, i2, i3, i4⟩ := hP.2 st.at_ x hx
  have hr := hv.2.2 st.at_ x hx
  have hreg : reg x.a = true := by unfold right at hr; simp only [Bool.and_eq_true] at hr; exact hr.1.1.1
  obtain ⟨a, ha, ha32⟩ : ∃ a : Nat, x.a = (a : Int) ∧ a < 32 := by have := reg_true hreg; exact ⟨x.a.toNat, by omega, by omega⟩
  obtain ⟨old, ho, hnO⟩ := hm.regs a ha32
  obtain ⟨rc, s1⟩ := hm.regsv
  have f1 := hm.freeR a
  have f2 := hm.freeS 0
  have m1 := hm.consts
  have s0 := hm.place
  have hRs := hm.ne
  rw [ha] at i1
  have hS : stepP ps st = stepI x st := by unfold stepP; rw [hx]; rfl
  have regB : ∀ n : Int, reg n = true → ∃ B : Nat, n = (B : Int) ∧ B < 32 ∧ ∃ X, w.cell? ⟨R, B, none⟩ = some (.pointer X) ∧ NodeW 72 w (st.reg n) (.pointer X) := fun n hn => by
    have := reg_true hn
    obtain ⟨y, h1, h2⟩ := hm.regs n.toNat (by omega)
    obtain ⟨Y, rfl⟩ := h2.one
    exact ⟨n.toNat, by omega, by omega, Y, h1, h2⟩
  unfold right at hr
  simp only [Bool.and_eq_true] at hr
  have hr2 := hr.2
  by_cases h0 : x.op = 0
  · rw [h0] at i0
    obtain ⟨y, hc, hN⟩ := hm.trees st.at_ x hx h0
    obtain ⟨Y, rfl⟩ := hN.one
    exact (rstep_set w m C b off ps.length cap st.at_ a s R rc (rd x.tree) Y x.b x.c (S x.tree) old hlt hn ha32 hRs m0 m1 s0 s1 i0 i1 i2 i3 i4 ho f1 f2 hc hN).mono fun e w' h => .of_to hm hs.2.1 ha32 h (by rw [hS]; unfold stepI; rw [if_pos h0, ha])
  rw [if_neg h0] at hr2
  by_cases h1 : x.op = 1
  · rw [h1] at i0
    rw [if_pos (.inl h1)] at hr2
    obtain ⟨B, hB, hB32, Y, hb, hN⟩ := regB x.b hr2
    exact (rstep_move w m C b off ps.length cap st.at_ a s R rc (st.reg x.b) Y x.b x.c (S x.tree) old hlt hn ha32 hRs m0 m1 s0 s1 i0 i1 i2 i3 i4 ho f1 f2 B hB32 hB hb hN).mono fun e w' h => .of_to hm hs.2.1 ha32 h (by rw [hS]; unfold stepI; rw [if_neg h0, if_pos h1, ha])
  by_cases h3 : x.op = 3
  · rw [h3] at i0
    rw [if_pos (.inr (.inl h3))] at hr2
    obtain ⟨B, hB, hB32, Y, hb, hN⟩ := regB x.b hr2
    exact (rstep_head w m C b off ps.length cap st.at_ a s R rc (st.reg x.b) Y x.b x.c (S x.tree) old hlt hn ha32 hRs m0 m1 s0 s1 i0 i1 i2 i3 i4 ho f1 f2 B hB32 hB hb hN).mono fun e w' h => .of_to hm hs.2.1 ha32 h (by rw [hS]; unfold stepI; rw [if_neg h0, if_neg h1, if_neg (by omega), if_pos h3, ha])
  by_cases h4 : x.op = 4
  · rw [h4] at i0
    rw [if_pos (.inr (.inr h4))] at hr2
    obtain ⟨B, hB, hB32, Y, hb, hN⟩ := regB x.b hr2
    exact (rstep_tail w m C b off ps.length cap st.at_ a s R rc (st.reg x.b) Y x.b x.c (S x.tree) old hlt hn ha32 hRs m0 m1 s0 s1 i0 i1 i2 i3 i4 ho f1 f2 B hB32 hB hb hN).mono fun e w' h => .of_to hm hs.2.1 ha32 h (by rw [hS]; unfold stepI; rw [if_neg h0, if_neg h1, if_neg (by omega), if_neg h3, if_pos h4, ha])
  rw [if_neg (by omega)] at hr2
  by_cases h2 : x.op = 2
  · rw [h2] at i0
    rw [if_pos h2] at hr2
    simp only [Bool.and_eq_true] at hr2
    obtain ⟨B, hB, hB32, Y, hb, hN⟩ := regB x.b hr2.1
    obtain ⟨D, hD, hD32, Z, hd, hN2⟩ := regB x.c hr2.2
    by_cases hl : (tx (.pair (st.reg x.b) (st.reg x.c))).length ≤ 2000000
    · exact (rstep_cons w m C b off ps.length cap st.at_ a s R rc (st.reg x.b) (st.reg x.c) Y Z x.b x.c (S x.tree) old hlt hn ha32 hRs m0 m1 s0 s1 i0 i1 i2 i3 i4 ho f1 f2 B D hB32 hD32 hB hD hb hd hN hN2 (St.reg_le hs _) (St.reg_le hs _) hl).mono fun e w' h => .of_to hm hs.2.1 ha32 h (by rw [hS]; unfold stepI; rw [if_neg h0, if_neg h1, if_pos h2, if_pos hl, ha])
    · refine (rstep_large w m C b off ps.length cap st.at_ a s R rc (st.reg x.b) (st.reg x.c) Y Z x.b x.c (S x.tree) old hlt hn ha32 hRs m0 m1 s0 s1 i0 i1 i2 i3 i4 ho f1 f2 B D hB32 hD32 hB hD hb hd hN hN2 (St.reg_le hs _) (St.reg_le hs _) hl).mono fun e w' h => ?_
      obtain ⟨he, hb⟩ := h
      refine ⟨But2.of_below hb, ?_⟩
      have : stepP ps st = none := by rw [hS]; unfold stepI; rw [if_neg h0, if_neg h1, if_pos h2, if_neg hl]
      rw [this]
      exact ⟨he, hm.below hb⟩
  rw [if_neg h2] at hr2
  by_cases h5 : x.op = 5
  · rw [h5] at i0
    rw [if_pos h5] at hr2
    simp only [Bool.and_eq_true, decide_eq_true_eq] at hr2
    obtain ⟨B, hB, hB32, Y, hb, hN⟩ := regB x.a hreg
    obtain rfl : B = a := by omega
    cases Y with
    | none =>
      have hnil : st.reg x.a = .nil := by
        rcases hN.ptr with ⟨h, _⟩ | ⟨_, A, h⟩
        · exact h
        · cases h
      exact (rstep_stay w m C b off ps.length cap st.at_ B s R rc x.b x.c (S x.tree) old hlt hn ha32 hRs m0 m1 s0 s1 i0 i1 i2 i3 i4 ho f1 f2 hb).mono fun e w' h => .of_go hm h (k := st.at_ + 1) (by omega) (by rw [hS]; unfold stepI; rw [if_neg h0, if_neg h1, if_neg h2, if_neg h3, if_neg h4, if_pos hnil])
    | some A =>
      have hne : st.reg x.a ≠ .nil := by
        rcases hN.ptr with ⟨_, h⟩ | ⟨h, _⟩
        · cases h
        · exact h
      exact (rstep_jump w m C b off ps.length cap st.at_ B s R rc A x.b x.c (S x.tree) old hlt hn ha32 hRs m0 m1 s0 s1 i0 i1 i2 i3 i4 ho f1 f2 hb hr2.1 hr2.2).mono fun e w' h => .of_go hm h (k := ((st.at_ : Int) + x.b).toNat) (by omega) (by rw [hS]; unfold stepI; rw [if_neg h0, if_neg h1, if_neg h2, if_neg h3, if_neg h4, if_neg hne])
  · rw [if_neg h5] at hr2
    cases hr2
end Go.Proofs.YtkpfocgcnehajabGreatDoor
