/- The reference's First, After and Run. By an AI agent. -/
import Derived.Test.YtkpfocgcnehajaaRLoad
namespace Go.Proofs.Ytkpfocgcnehajaa
open Go.RowKit Pl

/-- a state in memory -/
structure RS (w : World) (s R : Nat) (st : St) : Prop where
  place : w.cell? ⟨s, 0, none⟩ = some (.int .i64 (st.at_ : Int))
  regsv : ∃ rc, w.cell? ⟨s, 1, none⟩ = some (.slice (some ⟨R, 0, none⟩) 32 rc)
  regs : ∀ r, r < 32 → ∃ x, w.cell? ⟨R, r, none⟩ = some x ∧ NodeW 145 w (st.regs[r]?.getD .nil) x
  tagS : TagB w s 139
  tagR : TagB w R 88
  freeS : ∀ o, w.frozen? ⟨s, o, none⟩ = false
  freeR : ∀ o, w.frozen? ⟨R, o, none⟩ = false
theorem RM.of {w : World} {n0 m C s R : Nat} {v : Value} {ps : List Ins} {st : St} (h : RL w m C v ps) (k : RS w s R st) (hv : ∀ k, 0 < ps.length → v.ownBlock = some k → k < n0) (h1 : n0 ≤ s) (h2 : n0 ≤ R) (h3 : n0 ≤ w.heap.size) (h4 : C ≠ R) : RM w n0 m C s R ps st :=
  ⟨⟨v, h.c0, h.A, hv⟩, h.c1, h.trees, k.place, k.regsv, k.regs, h.tagm, h.tagC, k.tagS, k.tagR, k.freeS, k.freeR, h1, h2, h3, h4⟩
def RFirstOut (w : World) (st : St) (e : Ending) (w' : World) : Prop := ∃ s R, e = .returned (.pointer (some ⟨s, 0, none⟩)) ∧ RS w' s R st ∧ w.heap.size ≤ s ∧ w.heap.size ≤ R ∧ Below w.heap.size w w'
theorem made_at (z : Value) (n j : Nat) (hj : j < n) : (madeCells #[z] n).toList[j]? = some z := by
  rw [toList_madeCells_one, List.getElem?_replicate, if_pos hj]
set_option maxHeartbeats 1600000 in
set_option maxRecDepth 100000 in
theorem rFirst3_any (w : World) (t : Tr) (v : Value) (h : NodeW 145 w t v) :
    Calls Try.prog 60 #[v] w (RFirstOut w (first t)) := by
  obtain ⟨i0, hi, hz0, hz1, hz2⟩ := info_parts Try.infoRNode
  have HN := Lib.hid h
  obtain ⟨V, rfl⟩ := h.one
  clear h
  go_enter Try.func60, Try.ntmps60
  go_wp2_with (at_make; refine wpList_make_full _ rfl _ _ 137 rfl w.heap.size 88 i0 (.pointer none) 1 Try.underlying137 hi hz0 hz1 .i64 .i64 _ _ 32 rfl rfl rfl rfl (by rw [hz2]; omega) (by unfold maxLen; omega) (Nat.le_refl _) ?_)
  intro w1 hown hgrow
  have hb1 : Below w.heap.size w w1 := (Below.refl _ _).grown hgrow (Nat.le_refl _) (by simp)
  have hsz1 := hb1.size
  have HO := Lib.hid hown
  have hlt : w.heap.size < w1.heap.size := (own_tag hown rfl).lt
  clear hown hgrow hi hz0 hz1 hz2
  have c0 : w1.cell? ⟨w.heap.size, 0, none⟩ = some (.pointer none) := by rw [HO.out.cellAt 0 (by omega)]; exact made_at _ _ _ (by omega)
  have f0 := HO.out.frozenAt 0
  have HN1 := Lib.hid (NodeW.below HN.out hb1)
  have HB1 := Lib.hid hb1
  clear hb1
  go_wp2
  go_ret
  have hKN : KeepT 145 w1 (w1.setCell ⟨w.heap.size, 0, none⟩ (.pointer V)) := KeepT.setCell ((own_tag HO.out (k := w.heap.size) rfl).ne (by decide)) _
  have hN2 := NodeW.keep HN1.out (hKN.trans (KeepT.alloc _ _ (.cells #[.int .i64 0, .slice (some ⟨w.heap.size, 0, none⟩) 32 32] 139)))
  have hO2 := ((HO.out.stored 0 (.pointer V)).1.alloc (.cells #[.int .i64 0, .slice (some ⟨w.heap.size, 0, none⟩) 32 32] 139))
  have hs2 : (w1.setCell ⟨w.heap.size, 0, none⟩ (.pointer V)).heap.size = w1.heap.size := by simp [World.setCell]
  have hS : ((w1.setCell ⟨w.heap.size, 0, none⟩ (.pointer V)).alloc (.cells #[.int .i64 0, .slice (some ⟨w.heap.size, 0, none⟩) 32 32] 139)).heap[w1.heap.size]? = some (.cells #[.int .i64 0, .slice (some ⟨w.heap.size, 0, none⟩) 32 32] 139 (0, 0)) := by
    have := heap_alloc_new (w1.setCell ⟨w.heap.size, 0, none⟩ (.pointer V)) (.cells #[.int .i64 0, .slice (some ⟨w.heap.size, 0, none⟩) 32 32] 139)
    rwa [hs2] at this
  have hB : Below w.heap.size w ((w1.setCell ⟨w.heap.size, 0, none⟩ (.pointer V)).alloc (.cells #[.int .i64 0, .slice (some ⟨w.heap.size, 0, none⟩) 32 32] 139)) := (HB1.out.setCell (p := ⟨w.heap.size, 0, none⟩) (Nat.le_refl _) _).alloc (by omega) _
  generalize (w1.setCell ⟨w.heap.size, 0, none⟩ (.pointer V)).alloc (.cells #[.int .i64 0, .slice (some ⟨w.heap.size, 0, none⟩) 32 32] 139) = w2 at *
  generalize w1.heap.size = s at *
  refine ⟨s, w.heap.size, rfl, ⟨Lib.cell_of_heap hS 0, ⟨32, Lib.cell_of_heap hS 1⟩, fun r hr => ?_, ⟨_, _, hS⟩, own_tag hO2 rfl, fun o => Lib.frozen_of_heap hS o, fun o => hO2.frozenAt o⟩, by omega, Nat.le_refl _, hB⟩
  cases r with
  | zero => exact ⟨.pointer V, by rw [hO2.cellAt 0 (by omega)]; exact List.getElem?_set_self (by rw [toList_madeCells_one]; simp), hN2⟩
  | succ r =>
    refine ⟨.pointer none, by rw [hO2.cellAt _ (by omega), List.getElem?_set_ne (by omega)]; exact made_at _ _ _ hr, ?_⟩
    show NodeW _ _ ((List.replicate 31 Tr.nil)[r]?.getD .nil) _
    rw [List.getElem?_replicate, if_pos (by omega)]; rfl
/-- what the reference's After returns -/
def RAftOut (w : World) (n0 m C : Nat) (ps : List Ins) (t : Tr) (K : Nat) (e : Ending) (w' : World) : Prop :=
  Below w.heap.size w w' ∧ match runTo ps K (first t) with
    | some (st, n) => ∃ s R, e = .returned (.tuple #[.pointer (some ⟨s, 0, none⟩), .int .i64 (n : Int), .bool true]) ∧ RM w' n0 m C s R ps st
    | none => ∃ v k, e = .returned (.tuple #[v, .int .i64 k, .bool false])
theorem rended_is {w : World} {n0 m C s R : Nat} {ps : List Ins} {st : St} (hm : RM w n0 m C s R ps st) (hv : PValid ps) (hs : st.ok ps.length) :
    Calls Try.prog 65 #[.pointer (some ⟨m, 0, none⟩), .pointer (some ⟨s, 0, none⟩)] w fun e w' => e = .returned (.bool (st.at_ == ps.length)) ∧ ∃ q, w' = w.drewN q := by
  obtain ⟨v, m0, hA, _⟩ := hm.prog
  obtain ⟨A, cap, rfl⟩ : ∃ A cap, v = .slice A ps.length cap := by
    rcases hA with ⟨rfl, h⟩ | ⟨_, b, off, cap, rfl, _⟩
    · obtain ⟨A, cap, rfl⟩ := empty_arg h
      exact ⟨A, cap, rfl⟩
    · exact ⟨_, _, rfl⟩
  exact rended_any w m s ps.length cap st.at_ A hv.1 hs.1 m0 hm.place
theorem rstep_yes {w : World} {n0 m C s R : Nat} {ps : List Ins} {st st' : St} (hm : RM w n0 m C s R ps st) (hv : PValid ps) (hs : st.ok ps.length) (hne : st.at_ ≠ ps.length) (h : stepP ps st = some st') :
    Calls Try.prog 66 #[.pointer (some ⟨m, 0, none⟩), .pointer (some ⟨s, 0, none⟩)] w fun e w' => e = .returned (.bool true) ∧ RM w' n0 m C s R ps st' ∧ But2 s R w w' :=
  (rstep_any w n0 m C s R ps st hm hv hs (by have := hs.1; omega)).mono fun e w' ⟨h1, h2⟩ => by rw [h] at h2; exact ⟨h2.1, h2.2, h1⟩
theorem rstep_no {w : World} {n0 m C s R : Nat} {ps : List Ins} {st : St} (hm : RM w n0 m C s R ps st) (hv : PValid ps) (hs : st.ok ps.length) (hne : st.at_ ≠ ps.length) (h : stepP ps st = none) :
    Calls Try.prog 66 #[.pointer (some ⟨m, 0, none⟩), .pointer (some ⟨s, 0, none⟩)] w fun e w' => e = .returned (.bool false) ∧ RM w' n0 m C s R ps st ∧ But2 s R w w' :=
  (rstep_any w n0 m C s R ps st hm hv hs (by have := hs.1; omega)).mono fun e w' ⟨h1, h2⟩ => by rw [h] at h2; exact ⟨h2.1, h2.2, h1⟩

/-- what the reference's Run returns -/
def RRunOut (w : World) (ps : List Ins) (t : Tr) (K : Nat) (e : Ending) (w' : World) : Prop :=
  Below w.heap.size w w' ∧ match runTo ps K (first t) with
    | some (st, n) => (st.at_ = ps.length ∧ ∃ x, e = .returned (.tuple #[x, .int .i64 (n : Int), .int .i64 0]) ∧ NodeW 145 w' (st.reg 0) x) ∨ (st.at_ ≠ ps.length ∧ e = .returned (.tuple #[.pointer none, .int .i64 0, .int .i64 7]))
    | none => e = .returned (.tuple #[.pointer none, .int .i64 0, .int .i64 3])
end Go.Proofs.Ytkpfocgcnehajaa
