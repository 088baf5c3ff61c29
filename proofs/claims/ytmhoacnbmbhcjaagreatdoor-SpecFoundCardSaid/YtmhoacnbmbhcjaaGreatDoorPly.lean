/- Layer 4's law: its awake. By an AI agent. -/
import Derived.Test.YtmhoacnbmbhcjaaGreatDoorBld4
import Derived.Test.YtmhoacnbmbhcjaaGreatDoorMth
import Derived.Test.YtmhoacnbmbhcjaaGreatDoorTxt
import Derived.Deep.RegionHeld3
namespace Go.Proofs.YtmhoacnbmbhcjaaGreatDoor
open Go.RowKit Pl

def rdC (t : List UInt8) : Tr := if t = [49, 48, 48] then .pair .nil .nil else .nil
def nilB : Tr → Bool | .nil => true | .pair _ _ => false
theorem nilB_iff (t : Tr) : nilB t = true ↔ t = .nil := by cases t <;> simp [nilB]
def stepC (x : Ins) (s : St) : Option St :=
  if x.op = 0 then some (s.put x.a (rdC x.tree))
  else if x.op = 1 then some (s.put x.a (s.reg x.b))
  else if x.op = 2 then (if (tx (.pair (s.reg x.b) (s.reg x.c))).length ≤ 2000000 then some (s.put x.a (.pair (s.reg x.b) (s.reg x.c))) else none)
  else if x.op = 3 then some (s.put x.a (hdT (s.reg x.b)))
  else if x.op = 4 then some (s.put x.a (tlT (s.reg x.b)))
  else (if nilB (s.reg x.a) = true then some ⟨s.at_ + 1, s.regs⟩ else some ⟨((s.at_ : Int) + x.b).toNat, s.regs⟩)
theorem stepC_is {x : Ins} (h : x.op = 0 → rd x.tree = rdC x.tree) (s : St) : stepI x s = stepC x s := by
  unfold stepI stepC
  by_cases h0 : x.op = 0
  · rw [if_pos h0, if_pos h0, h h0]
  rw [if_neg h0, if_neg h0]
  split
  · rfl
  split
  · rfl
  split
  · rfl
  split
  · rfl
  by_cases h1 : s.reg x.a = .nil
  · rw [if_pos h1, if_pos ((nilB_iff _).2 h1)]
  · rw [if_neg h1, if_neg (fun h => h1 ((nilB_iff _).1 h))]
def runC (ps : List Ins) : Nat → St → Option (St × Nat)
  | 0, s => some (s, 0)
  | k + 1, s => if s.at_ = ps.length then some (s, 0) else ((ps[s.at_]?).bind fun x => stepC x s).bind fun t => (runC ps k t).map fun r => (r.1, r.2 + 1)
def outC (cs : List Ins) (K : Nat) (s : St) : Out :=
  match runC cs K s with
  | none => .size
  | some (t, n) => if t.at_ = cs.length then .ok (t.reg 0) n else .fuel
theorem runC_is {ps : List Ins} (h : ∀ x ∈ ps, x.op = 0 → rd x.tree = rdC x.tree) : ∀ (K : Nat) (s : St), runTo ps K s = runC ps K s := by
  intro K
  induction K with
  | zero => intro s; rfl
  | succ K ih =>
    intro s
    rw [runTo, runC]
    split
    · rfl
    · have e : stepP ps s = (ps[s.at_]?).bind fun x => stepC x s := by
        unfold stepP
        cases hx : ps[s.at_]? with
        | none => rfl
        | some x => exact stepC_is (h x (List.mem_of_getElem? hx)) s
      rw [e]
      congr 1
      funext t
      rw [ih]
theorem outC_is {ps : List Ins} (h : ∀ x ∈ ps, x.op = 0 → rd x.tree = rdC x.tree) (K : Nat) (s : St) : out ps K s = outC ps K s := by
  unfold out outC; rw [runC_is h]; rfl
theorem out_more {ps : List Ins} {K L : Nat} {s : St} {z : Tr} {n : Nat} (h : out ps K s = .ok z n) (hn : n ≤ L) : out ps L s = .ok z n := by
  obtain ⟨t, h1, _, h3, h4⟩ := out_ok h
  rw [out_end h1 hn h3, h4]
def t3 : Tr := .pair .nil (.pair .nil .nil)
def t5 : Tr := .pair .nil (.pair .nil (.pair .nil .nil))
theorem ex_then : out (thenL [pTail, pTail]) 2000 (first t3) = .ok .nil 2 :=
  out_more (K := 10) ((outC_is (by intro x hx; simp [thenL, behind, pTail, cleanL, rn, regs, rstep] at hx; subst hx; simp) 10 _).trans rfl) (by omega)
theorem pair_nil : pairL [] [] = [moveI 1 0, moveI 2 0, moveI 0 1, consI 0 2 0] := rfl
theorem ex_pair : out (pairL [] []) 2000 (first .nil) = .ok (.pair .nil .nil) 4 := by
  rw [pair_nil]
  exact out_more (K := 10) ((outC_is (by intro x hx; simp [moveI, consI] at hx; rcases hx with rfl | rfl | rfl | rfl <;> simp) 10 _).trans rfl) (by omega)
theorem while_tail : whileL [] pTail = [moveI 1 0, jumpI 0 4, moveI 0 1, setI 1 [49, 48, 48], jumpI 1 5, moveI 0 1, ⟨4, 0, 0, 0, []⟩, setI 1 [49, 48, 48], jumpI 1 (-8)] := rfl
theorem ex_while : out (whileL [] pTail) 2000 (first t5) = .ok .nil 23 := by
  rw [while_tail]
  refine out_more (K := 40) ((outC_is ?_ 40 _).trans rfl) (by omega)
  intro x hx h0
  simp only [List.mem_cons, List.not_mem_nil, or_false] at hx
  rcases hx with rfl | rfl | rfl | rfl | rfl | rfl | rfl | rfl | rfl <;> first | exact rd_100 | (simp [moveI, jumpI] at h0)
theorem then_valid : PValid (thenL [pTail, pTail]) := (fits_valid (allR_then (by intro p hp; simp at hp; subst hp; exact pTail_valid))).2 ⟨by decide, by decide⟩
theorem pairN_valid : PValid (pairL [] []) := (fits_valid (allR_pair pNil_valid pNil_valid (by decide) (by decide))).2 ⟨by decide, by decide⟩
theorem while_valid : PValid (whileL [] pTail) := (fits_valid (allR_while pNil_valid pTail_valid (by decide) (by decide))).2 ⟨by decide, by decide⟩
theorem due_ok {l : List (List Ins)} {cs : List Ins} (h : ∀ p ∈ l, PValid p) (h2 : ∀ p ∈ l, rn p ≤ 28) (h3 : PValid cs) : dueP l cs = 0 := by
  unfold dueP
  rw [if_neg (by rintro ⟨p, h1, h2⟩; exact h2 (h p h1)), if_neg (by rintro ⟨p, h1, h3⟩; have := h2 p h1; omega), if_pos ⟨h3.1, h3.2.1⟩]
theorem BPost.ok {w w' : World} {cs : List Ins} {e : Ending} (h : BPost w 0 cs e w') : ∃ v, e = .returned (.tuple #[v, .int .i64 0]) ∧ ArgP w' v cs ∧ Below w.heap.size w w' := by
  obtain ⟨h1, ⟨_, v, h2, h3⟩ | ⟨h2, _⟩⟩ := h
  · exact ⟨v, h2, h3, h1⟩
  · exact absurd rfl h2
theorem runRes_ok {ps : List Ins} {K n : Nat} {t z : Tr} (h : out ps K (first t) = .ok z n) : runRes ps K t = .tuple #[.string (S (tx z)), .int .i64 (n : Int), .int .i64 0] := by
  obtain ⟨s, h1, h2, h3, h4⟩ := out_ok h
  unfold runRes
  rw [runTo_is h1 h2 (.inr h3)]
  simp only [if_pos h3, h4]
theorem runRes_size {ps : List Ins} {K : Nat} {t : Tr} (h : out ps K (first t) = .size) : runRes ps K t = .tuple #[.string (S []), .int .i64 0, .int .i64 3] := by
  unfold out at h; unfold runRes
  cases hr : runTo ps K (first t) with
  | none => rfl
  | some r =>
    obtain ⟨s, n⟩ := r
    rw [hr] at h
    simp only at h
    split at h <;> cases h
theorem runRes_fuel {ps : List Ins} {K : Nat} {t : Tr} (h : out ps K (first t) = .fuel) : runRes ps K t = .tuple #[.string (S []), .int .i64 0, .int .i64 7] := by
  unfold out at h; unfold runRes
  cases hr : runTo ps K (first t) with
  | none => rw [hr] at h; cases h
  | some r =>
    obtain ⟨s, n⟩ := r
    rw [hr] at h
    simp only at h
    split at h
    · cases h
    · rename_i h1; simp only [if_neg h1]
def exText : List UInt8 := [109, 111, 118, 101, 32, 49, 32, 48, 59, 32, 109, 111, 118, 101, 32, 50, 32, 48, 59, 32, 109, 111, 118, 101, 32, 48, 32, 49, 59, 32, 99, 111, 110, 115, 32, 48, 32, 50, 32, 48]
theorem dint_0 : dint 0 = [48] := by simp [dint, dg]
theorem dint_1 : dint 1 = [49] := by simp [dint, dg]
theorem dint_2 : dint 2 = [50] := by simp [dint, dg]
theorem txt_pair : txt (pairL [] []) = exText := by
  rw [pair_nil]
  simp [txt, txtTo, textOf, nm, nms, dint_0, dint_1, dint_2, moveI, consI, exText]
def tailO : Obj := .cells (progV pTail).toArray 64
theorem two_tails (w : World) : PiecesAt (((w.alloc tailO).alloc tailO).alloc (.cells #[.slice (some ⟨w.heap.size, 0, none⟩) 1 1, .slice (some ⟨w.heap.size + 1, 0, none⟩) 1 1] 23)) (w.heap.size + 2) 0 [pTail, pTail] ∧
    Below w.heap.size w (((w.alloc tailO).alloc tailO).alloc (.cells #[.slice (some ⟨w.heap.size, 0, none⟩) 1 1, .slice (some ⟨w.heap.size + 1, 0, none⟩) 1 1] 23)) := by
  have A0 : ArgP (w.alloc tailO) (.slice (some ⟨w.heap.size, 0, none⟩) 1 1) pTail := lit_prog w pTail (by decide)
  have A1 := A0.below (alloc_below _ tailO)
  have A2 : ArgP ((w.alloc tailO).alloc tailO) (.slice (some ⟨w.heap.size + 1, 0, none⟩) 1 1) pTail := by
    have h := lit_prog (w.alloc tailO) pTail (by decide)
    rw [World.size_alloc] at h; exact h
  exact ⟨lit_piecesB (by simp) [.slice (some ⟨w.heap.size, 0, none⟩) 1 1, .slice (some ⟨w.heap.size + 1, 0, none⟩) 1 1] [pTail, pTail] ⟨A1, A2, trivial⟩, bstep (bstep (alloc_below _ _) (alloc_below _ _)) (alloc_below _ _)⟩
end Go.Proofs.YtmhoacnbmbhcjaaGreatDoor

namespace Go.Proofs.YtmhoacnbmbhcjaaGreatDoor
open Go.RowKit Pl

/-- a play in memory -/
structure PlAt (w : World) (b : Nat) (a : PlS) : Prop where
  lt : b < w.heap.size
  c0 : w.cell? ⟨b, 0, none⟩ = some (.string (S a.x))
  c1 : w.cell? ⟨b, 1, none⟩ = some (.int .i64 (a.n : Int))
  c2 : w.cell? ⟨b, 2, none⟩ = some (.int .i64 a.e)
  f0 : w.frozen? ⟨b, 0, none⟩ = false
  f1 : w.frozen? ⟨b, 1, none⟩ = false
  f2 : w.frozen? ⟨b, 2, none⟩ = false
theorem PlAt.below {w w1 : World} {b : Nat} {a : PlS} (h : PlAt w b a) (hb : Below w.heap.size w w1) : PlAt w1 b a where
  lt := Nat.lt_of_lt_of_le h.lt hb.size
  c0 := cell_keep hb h.c0
  c1 := cell_keep hb h.c1
  c2 := cell_keep hb h.c2
  f0 := (hb.frozen (p := ⟨b, 0, none⟩) h.lt).trans h.f0
  f1 := (hb.frozen (p := ⟨b, 1, none⟩) h.lt).trans h.f1
  f2 := (hb.frozen (p := ⟨b, 2, none⟩) h.lt).trans h.f2
theorem PlAt.setX {w : World} {b : Nat} {a : PlS} (h : PlAt w b a) (x : List UInt8) : PlAt (w.setCell ⟨b, 0, none⟩ (.string (S x))) b { a with x := x } where
  lt := by simpa using h.lt
  c0 := set_same h.c0
  c1 := by rw [set_other (addr_ne (by omega))]; exact h.c1
  c2 := by rw [set_other (addr_ne (by omega))]; exact h.c2
  f0 := by simpa using h.f0
  f1 := by simpa using h.f1
  f2 := by simpa using h.f2
theorem PlAt.setN {w : World} {b : Nat} {a : PlS} (h : PlAt w b a) (n : Nat) : PlAt (w.setCell ⟨b, 1, none⟩ (.int .i64 (n : Int))) b { a with n := n } where
  lt := by simpa using h.lt
  c0 := by rw [set_other (addr_ne (by omega))]; exact h.c0
  c1 := set_same h.c1
  c2 := by rw [set_other (addr_ne (by omega))]; exact h.c2
  f0 := by simpa using h.f0
  f1 := by simpa using h.f1
  f2 := by simpa using h.f2
theorem PlAt.setE {w : World} {b : Nat} {a : PlS} (h : PlAt w b a) (e : Int) : PlAt (w.setCell ⟨b, 2, none⟩ (.int .i64 e)) b { a with e := e } where
  lt := by simpa using h.lt
  c0 := by rw [set_other (addr_ne (by omega))]; exact h.c0
  c1 := by rw [set_other (addr_ne (by omega))]; exact h.c1
  c2 := set_same h.c2
  f0 := by simpa using h.f0
  f1 := by simpa using h.f1
  f2 := by simpa using h.f2
theorem PlAt.new (w : World) (x : List UInt8) (n : Nat) (ty : TypeId) : PlAt (w.alloc (.cells #[.string (S x), .int .i64 (n : Int), .int .i64 0] ty)) w.heap.size ⟨x, n, 0⟩ where
  lt := by simp
  c0 := by rw [World.cell?_alloc_new]; rfl
  c1 := by rw [World.cell?_alloc_new]; rfl
  c2 := by rw [World.cell?_alloc_new]; rfl
  f0 := by simp
  f1 := by simp
  f2 := by simp
/-- what a method leaves -/
def MPlay (w : World) (b : Nat) (a : PlS) (w' : World) : Prop := PlAt w' b a ∧ Below b w w'
theorem below_low {b : Nat} {w w1 w2 : World} (h : Below b w w1) (hb : b < w1.heap.size) (h2 : Below w1.heap.size w1 w2) : Below b w w2 := h.trans (h2.mono (Nat.le_of_lt hb))
/-- what Run returns, as the play says -/
theorem ends_res {cs : List Ins} {t : Tr} {a : PlS} (h : EndsP cs (first t) a) : ∃ (y : List UInt8) (m : Nat), runRes cs a.n t = .tuple #[.string (S y), .int .i64 (m : Int), .int .i64 a.e] ∧ (a.e = 0 → y = a.x ∧ m = a.n) := by
  rcases h with ⟨he, z, hx, ho⟩ | ⟨he, ho⟩ | ⟨he, ho⟩
  · exact ⟨tx z, a.n, by rw [runRes_ok ho, he], fun _ => ⟨hx.symm, rfl⟩⟩
  · exact ⟨[], 0, by rw [runRes_size ho, he]; rfl, fun h => by omega⟩
  · exact ⟨[], 0, by rw [runRes_fuel ho, he]; rfl, fun h => by omega⟩
end Go.Proofs.YtmhoacnbmbhcjaaGreatDoor

namespace Go.Proofs.YtmhoacnbmbhcjaaGreatDoor
open Go.RowKit Pl

set_option maxHeartbeats 800000 in
set_option maxRecDepth 100000 in
theorem fits_any (w : World) (v : Value) (cs : List Ins) (r : Bool) (h : ArgP w v cs) (hl : cs.length ≤ 281474976710656) (hz : ∀ x ∈ cs, x.tree.length ≤ 281474976710656) (hr : r = true ↔ FitsP cs) :
    Calls Tryz.prog 57 #[v] w fun e w' => e = .returned (.bool r) ∧ Below w.heap.size w w' := by
  obtain ⟨a, c, rfl⟩ := h.form
  by_cases h4 : cs.length ≤ 4000
  · have HT := Lib.hid (Trees_arg w _ cs h h4 hz)
    have h4' : (cs.length : Int) ≤ 4000 := by omega
    have HR := Lib.hid hr
    have hq : (trees cs : Int) = (trees cs : Int) := rfl
    by_cases h5 : trees cs ≤ 2000000
    · have hrt : r = true := hr.2 ⟨h4, h5⟩
      subst hrt
      have h5' : (trees cs : Int) ≤ 2000000 := by omega
      generalize trees cs = q at *
      generalize cs.length = n at *
      clear h hr hz hq
      go_enter Tryz.func57, Tryz.ntmps57
      go_wp2_with fail
      refine HT.out.mono ?_
      rintro e w1 ⟨rfl, rfl⟩
      go_wp2
      go_ret
      exact ⟨rfl, Below.refl _ _⟩
    · have hrf : r = false := by
        cases r with
        | false => rfl
        | true => exact absurd (hr.1 rfl).2 h5
      subst hrf
      have h5' : decide ((trees cs : Int) ≤ 2000000) = false := by rw [decide_eq_false_iff_not]; omega
      generalize trees cs = q at *
      generalize cs.length = n at *
      clear h hr hz hq
      go_enter Tryz.func57, Tryz.ntmps57
      go_wp2_with fail
      refine HT.out.mono ?_
      rintro e w1 ⟨rfl, rfl⟩
      go_wp2
      go_ret
      exact ⟨rfl, Below.refl _ _⟩
  · have hrf : r = false := by
      cases r with
      | false => rfl
      | true => exact absurd (hr.1 rfl).1 h4
    subst hrf
    have h4' : decide ((cs.length : Int) ≤ 4000) = false := by rw [decide_eq_false_iff_not]; omega
    generalize cs.length = n at *
    clear h hr hz
    go_enter Tryz.func57, Tryz.ntmps57
    go_wp2
    go_ret
    exact ⟨rfl, Below.refl _ _⟩
theorem fits_bool (cs : List Ins) : ∃ r : Bool, r = true ↔ FitsP cs := by
  by_cases h : FitsP cs
  · exact ⟨true, by simp [h]⟩
  · exact ⟨false, by simp [h]⟩
end Go.Proofs.YtmhoacnbmbhcjaaGreatDoor
