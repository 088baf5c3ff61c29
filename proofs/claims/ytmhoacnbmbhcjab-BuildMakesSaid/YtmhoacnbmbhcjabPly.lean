/- Layer 4's law: its awake. By an AI agent. -/
import Derived.Test.YtmhoacnbmbhcjabBld4
import Derived.Test.YtmhoacnbmbhcjabMth
import Derived.Test.YtmhoacnbmbhcjabTxt
import Derived.Deep.RegionHeld3
namespace Go.Proofs.Ytmhoacnbmbhcjab
open Go.RowKit Pl

def rdC (t : List UInt8) : Tr := if t = [49, 48, 48] then .pair .nil .nil else .nil
def nilB : Tr → Bool | .nil => true | .pair _ _ => false
theorem nilB_iff (t : Tr) : nilB t = true ↔ t = .nil := by cases t <;> simp [nilB]
def stepC (x : Ins) (s : St) : Option St :=
  if x.op = 0 then some (s.put x.a (rdC x.tree))
  else if x.op = 1 then some (s.put x.a (s.reg x.b))
  else if x.op = 2 then (if (tx (.pair (s.reg x.b) (s.reg x.c))).length ≤ 2000000 then some (s.put x.a (.pair (s.reg x.b) (s.reg x.c))) else none)
  else if x.op = 3 then some (s.put x.a (hdT (s.reg x.b)))
  else if x.op = 4 then some (s.put x.a (tlT (s.reg x.b)))
  else (if nilB (s.reg x.a) = true then some ⟨s.at_ + 1, s.regs⟩ else some ⟨((s.at_ : Int) + x.b).toNat, s.regs⟩)
theorem stepC_is {x : Ins} (h : x.op = 0 → rd x.tree = rdC x.tree) (s : St) : stepI x s = stepC x s := by
  unfold stepI stepC
  by_cases h0 : x.op = 0
  · rw [if_pos h0, if_pos h0, h h0]
  rw [if_neg h0, if_neg h0]
  split
  · rfl
  split
  · rfl
  split
  · rfl
  split
  · rfl
  by_cases h1 : s.reg x.a = .nil
  · rw [if_pos h1, if_pos ((nilB_iff _).2 h1)]
  · rw [if_neg h1, if_neg (fun h => h1 ((nilB_iff _).1 h))]
def runC (ps : List Ins) : Nat → St → Option (St × Nat)
  | 0, s => some (s, 0)
  | k + 1, s => if s.at_ = ps.length then some (s, 0) else ((ps[s.at_]?).bind fun x => stepC x s).bind fun t => (runC ps k t).map fun r => (r.1, r.2 + 1)
def outC (cs : List Ins) (K : Nat) (s : St) : Out :=
  match runC cs K s with
  | none => .size
  | some (t, n) => if t.at_ = cs.length then .ok (t.reg 0) n else .fuel
theorem runC_is {ps : List Ins} (h : ∀ x ∈ ps, x.op = 0 → rd x.tree = rdC x.tree) : ∀ (K : Nat) (s : St), runTo ps K s = runC ps K s := by
  intro K
  induction K with
  | zero => intro s; rfl
  | succ K ih =>
    intro s
    rw [runTo, runC]
    split
    · rfl
    · have e : stepP ps s = (ps[s.at_]?).bind fun x => stepC x s := by
        unfold stepP
        cases hx : ps[s.at_]? with
        | none => rfl
        | some x => exact stepC_is (h x (List.mem_of_getElem? hx)) s
      rw [e]
      congr 1
      funext t
      rw [ih]
theorem outC_is {ps : List Ins} (h : ∀ x ∈ ps, x.op = 0 → rd x.tree = rdC x.tree) (K : Nat) (s : St) : out ps K s = outC ps K s := by
  unfold out outC; rw [runC_is h]; rfl
theorem out_more {ps : List Ins} {K L : Nat} {s : St} {z : Tr} {n : Nat} (h : out ps K s = .ok z n) (hn : n ≤ L) : out ps L s = .ok z n := by
  obtain ⟨t, h1, _, h3, h4⟩ := out_ok h
  rw [out_end h1 hn h3, h4]
def t3 : Tr := .pair .nil (.pair .nil .nil)
def t5 : Tr := .pair .nil (.pair .nil (.pair .nil .nil))
theorem ex_then : out (thenL [pTail, pTail]) 2000 (first t3) = .ok .nil 2 :=
  out_more (K := 10) ((outC_is (by intro x hx; simp [thenL, behind, pTail, cleanL, rn, regs, rstep] at hx; subst hx; simp) 10 _).trans rfl) (by omega)
theorem pair_nil : pairL [] [] = [moveI 1 0, moveI 2 0, moveI 0 1, consI 0 2 0] := rfl
theorem ex_pair : out (pairL [] []) 2000 (first .nil) = .ok (.pair .nil .nil) 4 := by
  rw [pair_nil]
  exact out_more (K := 10) ((outC_is (by intro x hx; simp [moveI, consI] at hx; rcases hx with rfl | rfl | rfl | rfl <;> simp) 10 _).trans rfl) (by omega)
theorem while_tail : whileL [] pTail = [moveI 1 0, jumpI 0 4, moveI 0 1, setI 1 [49, 48, 48], jumpI 1 5, moveI 0 1, ⟨4, 0, 0, 0, []⟩, setI 1 [49, 48, 48], jumpI 1 (-8)] := rfl
theorem ex_while : out (whileL [] pTail) 2000 (first t5) = .ok .nil 23 := by
  rw [while_tail]
  refine out_more (K := 40) ((outC_is ?_ 40 _).trans rfl) (by omega)
  intro x hx h0
  simp only [List.mem_cons, List.not_mem_nil, or_false] at hx
  rcases hx with rfl | rfl | rfl | rfl | rfl | rfl | rfl | rfl | rfl <;> first | exact rd_100 | (simp [moveI, jumpI] at h0)
theorem then_valid : PValid (thenL [pTail, pTail]) := (fits_valid (allR_then (by intro p hp; simp at hp; subst hp; exact pTail_valid))).2 ⟨by decide, by decide⟩
theorem pairN_valid : PValid (pairL [] []) := (fits_valid (allR_pair pNil_valid pNil_valid (by decide) (by decide))).2 ⟨by decide, by decide⟩
theorem while_valid : PValid (whileL [] pTail) := (fits_valid (allR_while pNil_valid pTail_valid (by decide) (by decide))).2 ⟨by decide, by decide⟩
theorem due_ok {l : List (List Ins)} {cs : List Ins} (h : ∀ p ∈ l, PValid p) (h2 : ∀ p ∈ l, rn p ≤ 28) (h3 : PValid cs) : dueP l cs = 0 := by
  unfold dueP
  rw [if_neg (by rintro ⟨p, h1, h2⟩; exact h2 (h p h1)), if_neg (by rintro ⟨p, h1, h3⟩; have := h2 p h1; omega), if_pos ⟨h3.1, h3.2.1⟩]
theorem BPost.ok {w w' : World} {cs : List Ins} {e : Ending} (h : BPost w 0 cs e w') : ∃ v, e = .returned (.tuple #[v, .int .i64 0]) ∧ ArgP w' v cs ∧ Below w.heap.size w w' := by
  obtain ⟨h1, ⟨_, v, h2, h3⟩ | ⟨h2, _⟩⟩ := h
  · exact ⟨v, h2, h3, h1⟩
  · exact absurd rfl h2
theorem runRes_ok {ps : List Ins} {K n : Nat} {t z : Tr} (h : out ps K (first t) = .ok z n) : runRes ps K t = .tuple #[.string (S (tx z)), .int .i64 (n : Int), .int .i64 0] := by
  obtain ⟨s, h1, h2, h3, h4⟩ := out_ok h
  unfold runRes
  rw [runTo_is h1 h2 (.inr h3)]
  simp only [if_pos h3, h4]
theorem runRes_size {ps : List Ins} {K : Nat} {t : Tr} (h : out ps K (first t) = .size) : runRes ps K t = .tuple #[.string (S []), .int .i64 0, .int .i64 3] := by
  unfold out at h; unfold runRes
  cases hr : runTo ps K (first t) with
  | none => rfl
  | some r =>
    obtain ⟨s, n⟩ := r
    rw [hr] at h
    simp only at h
    split at h <;> cases h
theorem runRes_fuel {ps : List Ins} {K : Nat} {t : Tr} (h : out ps K (first t) = .fuel) : runRes ps K t = .tuple #[.string (S []), .int .i64 0, .int .i64 7] := by
  unfold out at h; unfold runRes
  cases hr : runTo ps K (first t) with
  | none => rw [hr] at h; cases h
  | some r =>
    obtain ⟨s, n⟩ := r
    rw [hr] at h
    simp only at h
    split at h
    · cases h
    · rename_i h1; simp only [if_neg h1]
set_option maxHeartbeats 400000 in
set_option maxRecDepth 100000 in
theorem tail4_any (w : World) : Calls Try.prog 53 #[] w fun e w' => e = .returned (.slice (some ⟨w.heap.size, 0, none⟩) 1 1) ∧ w' = w.alloc (.cells (progV pTail).toArray 39) := by
  go_enter Try.func53, Try.ntmps53
  go_wp2
  go_ret
  exact ⟨rfl, rfl⟩
set_option maxHeartbeats 800000 in
set_option maxRecDepth 100000 in
theorem returns4_yes (w : World) (v : Value) (ps : List Ins) (t z : Tr) (n : Nat) (h : ArgP w v ps) (hv : PValid ps) (hx : (tx t).length ≤ 2000000) (ho : out ps 2000 (first t) = .ok z n) :
    Calls Try.prog 54 #[v, .string (S (tx t)), .string (S (tx z))] w fun e w' => e = .returned (.bool true) ∧ Below w.heap.size w w' := by
  have H := Lib.hid (Run_yes w v ps (S (tx t)) 2000 h hv (by rw [S_list]; exact vld_tx hx) (by omega))
  rw [S_list, rd_tx, runRes_ok ho] at H
  have hss : ((S (tx z)).toList == (S (tx z)).toList) = true := by simp
  generalize S (tx z) = y at *
  clear h hv ho
  go_enter Try.func54, Try.ntmps54
  go_wp2_with fail
  refine H.out.mono ?_
  rintro e w1 ⟨rfl, h1⟩
  go_wp2
  go_ret
  exact ⟨rfl, h1⟩
def exText : List UInt8 := [109, 111, 118, 101, 32, 49, 32, 48, 59, 32, 109, 111, 118, 101, 32, 50, 32, 48, 59, 32, 109, 111, 118, 101, 32, 48, 32, 49, 59, 32, 99, 111, 110, 115, 32, 48, 32, 50, 32, 48]
theorem dint_0 : dint 0 = [48] := by simp [dint, dg]
theorem dint_1 : dint 1 = [49] := by simp [dint, dg]
theorem dint_2 : dint 2 = [50] := by simp [dint, dg]
theorem txt_pair : txt (pairL [] []) = exText := by
  rw [pair_nil]
  simp [txt, txtTo, textOf, nm, nms, dint_0, dint_1, dint_2, moveI, consI, exText]
def tailO : Obj := .cells (progV pTail).toArray 39
theorem two_tails (w : World) : PiecesAt (((w.alloc tailO).alloc tailO).alloc (.cells #[.slice (some ⟨w.heap.size, 0, none⟩) 1 1, .slice (some ⟨w.heap.size + 1, 0, none⟩) 1 1] 23)) (w.heap.size + 2) 0 [pTail, pTail] ∧
    Below w.heap.size w (((w.alloc tailO).alloc tailO).alloc (.cells #[.slice (some ⟨w.heap.size, 0, none⟩) 1 1, .slice (some ⟨w.heap.size + 1, 0, none⟩) 1 1] 23)) := by
  have A0 : ArgP (w.alloc tailO) (.slice (some ⟨w.heap.size, 0, none⟩) 1 1) pTail := lit_prog w pTail (by decide)
  have A1 := A0.below (alloc_below _ tailO)
  have A2 : ArgP ((w.alloc tailO).alloc tailO) (.slice (some ⟨w.heap.size + 1, 0, none⟩) 1 1) pTail := by
    have h := lit_prog (w.alloc tailO) pTail (by decide)
    rw [World.size_alloc] at h; exact h
  exact ⟨lit_piecesB (by simp) [.slice (some ⟨w.heap.size, 0, none⟩) 1 1, .slice (some ⟨w.heap.size + 1, 0, none⟩) 1 1] [pTail, pTail] ⟨A1, A2, trivial⟩, bstep (bstep (alloc_below _ _) (alloc_below _ _)) (alloc_below _ _)⟩
set_option maxHeartbeats 3200000 in
set_option maxRecDepth 100000 in
theorem awake4_any (w : World) : Calls Try.prog 14 #[] w fun e w' => e = .returned (.bool true) ∧ Below w.heap.size w w' := by
  have e1 : dueP [pTail, pTail] (thenL [pTail, pTail]) = 0 := due_ok (by intro p hp; simp at hp; subst hp; exact pTail_valid) (by intro p hp; simp at hp; subst hp; decide) then_valid
  have e2 : dueP [[], []] (pairL [] []) = 0 := due_ok (by intro p hp; simp at hp; subst hp; exact pNil_valid) (by intro p hp; simp at hp; subst hp; decide) pairN_valid
  have e3 : dueP [[], pTail] (whileL [] pTail) = 0 := due_ok (by intro p hp; simp at hp; rcases hp with rfl | rfl; exact pNil_valid; exact pTail_valid) (by intro p hp; simp at hp; rcases hp with rfl | rfl <;> decide) while_valid
  have sz : ∀ {p}, PValid p → SizeP p := fun h => ⟨by have := h.1; omega, fun x hx => by have := valid_tree h x hx; omega⟩
  have H1 := Lib.hid (fun W b cap h => Then_some W b 0 cap [pTail, pTail] h (by decide) (by intro p hp; simp at hp; subst hp; exact sz pTail_valid))
  have H2 := Lib.hid (fun W => Pair_any W (.slice none 0 0) (.slice none 0 0) [] [] (.inl ⟨rfl, .inl rfl⟩) (.inl ⟨rfl, .inl rfl⟩) (sz pNil_valid) (sz pNil_valid))
  have H3 := Lib.hid (fun W v h => While_any W (.slice none 0 0) v [] pTail (.inl ⟨rfl, .inl rfl⟩) h (sz pNil_valid) (sz pTail_valid))
  rw [e1] at H1
  rw [e2] at H2
  rw [e3] at H3
  have R1 := Lib.hid (fun W v h => returns4_yes W v _ t3 .nil 2 h then_valid (by decide) ex_then)
  have R2 := Lib.hid (fun W v h => returns4_yes W v _ .nil (.pair .nil .nil) 4 h pairN_valid (by decide) ex_pair)
  have R3 := Lib.hid (fun W v h => returns4_yes W v _ t5 .nil 23 h while_valid (by decide) ex_while)
  have R4 := Lib.hid (fun W v h => Text_arg W v (pairL [] []) h pairN_valid)
  rw [txt_pair] at R4
  clear e1 e2 e3 sz
  go_enter Try.func14, Try.ntmps14
  go_wp2_with fail
  refine (tail4_any _).mono ?_
  rintro e w1 ⟨rfl, rfl⟩
  go_wp2_with fail
  refine (tail4_any _).mono ?_
  rintro e w2 ⟨rfl, rfl⟩
  have HT := Lib.hid (two_tails w)
  go_wp2_with fail
  refine (H1.out _ _ 2 HT.out.1).mono ?_
  intro e w3 hJ
  obtain ⟨v3, rfl, ha3, h3⟩ := hJ.ok
  obtain ⟨a3, c3, rfl⟩ := ha3.form
  have hb3 := Lib.hid (bstep HT.out.2 h3)
  have A3 := Lib.hid ha3
  clear ha3 h3 hJ
  go_wp2_with fail
  refine (H2.out _).mono ?_
  intro e w4 hJ
  obtain ⟨v4, rfl, ha4, h4⟩ := hJ.ok
  obtain ⟨a4, c4, rfl⟩ := ha4.form
  have hb4 := Lib.hid (bstep hb3.out h4)
  have A34 := Lib.hid (A3.out.below h4)
  have A4 := Lib.hid ha4
  clear ha4 h4 hJ
  go_wp2_with fail
  refine (tail4_any _).mono ?_
  rintro e w5 ⟨rfl, rfl⟩
  have b5 : Below w4.heap.size w4 (w4.alloc tailO) := alloc_below _ _
  have A5 : ArgP (w4.alloc tailO) (.slice (some ⟨w4.heap.size, 0, none⟩) 1 1) pTail := lit_prog w4 pTail (by decide)
  have HA5 := Lib.hid A5
  have hb5 := Lib.hid (bstep hb4.out b5)
  have A35 := Lib.hid (A34.out.below b5)
  have A45 := Lib.hid (A4.out.below b5)
  clear A5 b5
  go_wp2_with fail
  refine (H3.out _ _ HA5.out).mono ?_
  intro e w6 hJ
  obtain ⟨v6, rfl, ha6, h6⟩ := hJ.ok
  obtain ⟨a6, c6, rfl⟩ := ha6.form
  have hb6 := Lib.hid (bstep hb5.out h6)
  have A36 := Lib.hid (A35.out.below h6)
  have A46 := Lib.hid (A45.out.below h6)
  have A6 := Lib.hid ha6
  clear ha6 h6 hJ
  go_wp2_with fail
  refine (R1.out _ _ A36.out).mono ?_
  rintro e w7 ⟨rfl, h7⟩
  have hb7 := Lib.hid (bstep hb6.out h7)
  have A47 := Lib.hid (A46.out.below h7)
  have A67 := Lib.hid (A6.out.below h7)
  clear h7
  go_wp2_with fail
  refine (R2.out _ _ A47.out).mono ?_
  rintro e w8 ⟨rfl, h8⟩
  have hb8 := Lib.hid (bstep hb7.out h8)
  have A48 := Lib.hid (A47.out.below h8)
  have A68 := Lib.hid (A67.out.below h8)
  clear h8
  go_wp2_with fail
  refine (R4.out _ _ A48.out).mono ?_
  rintro e w9 ⟨rfl, h9⟩
  have hb9 := Lib.hid (bstep hb8.out h9)
  have A69 := Lib.hid (A68.out.below h9)
  clear h9
  have htx : (S exText).toList = [109, 111, 118, 101, 32, 49, 32, 48, 59, 32, 109, 111, 118, 101, 32, 50, 32, 48, 59, 32, 109, 111, 118, 101, 32, 48, 32, 49, 59, 32, 99, 111, 110, 115, 32, 48, 32, 50, 32, 48] := by simp [exText]
  go_wp2_with fail
  refine (R3.out _ _ A69.out).mono ?_
  rintro e w10 ⟨rfl, h10⟩
  have hb10 := Lib.hid (bstep hb9.out h10)
  go_wp2
  go_ret
  exact ⟨rfl, hb10.out⟩
end Go.Proofs.Ytmhoacnbmbhcjab

namespace Go.Proofs.Ytmhoacnbmbhcjab
open Go.RowKit Pl

/-- a play in memory -/
structure PlAt (w : World) (b : Nat) (a : PlS) : Prop where
  lt : b < w.heap.size
  c0 : w.cell? ⟨b, 0, none⟩ = some (.string (S a.x))
  c1 : w.cell? ⟨b, 1, none⟩ = some (.int .i64 (a.n : Int))
  c2 : w.cell? ⟨b, 2, none⟩ = some (.int .i64 a.e)
  f0 : w.frozen? ⟨b, 0, none⟩ = false
  f1 : w.frozen? ⟨b, 1, none⟩ = false
  f2 : w.frozen? ⟨b, 2, none⟩ = false
theorem PlAt.below {w w1 : World} {b : Nat} {a : PlS} (h : PlAt w b a) (hb : Below w.heap.size w w1) : PlAt w1 b a where
  lt := Nat.lt_of_lt_of_le h.lt hb.size
  c0 := cell_keep hb h.c0
  c1 := cell_keep hb h.c1
  c2 := cell_keep hb h.c2
  f0 := (hb.frozen (p := ⟨b, 0, none⟩) h.lt).trans h.f0
  f1 := (hb.frozen (p := ⟨b, 1, none⟩) h.lt).trans h.f1
  f2 := (hb.frozen (p := ⟨b, 2, none⟩) h.lt).trans h.f2
theorem PlAt.setX {w : World} {b : Nat} {a : PlS} (h : PlAt w b a) (x : List UInt8) : PlAt (w.setCell ⟨b, 0, none⟩ (.string (S x))) b { a with x := x } where
  lt := by simpa using h.lt
  c0 := set_same h.c0
  c1 := by rw [set_other (addr_ne (by omega))]; exact h.c1
  c2 := by rw [set_other (addr_ne (by omega))]; exact h.c2
  f0 := by simpa using h.f0
  f1 := by simpa using h.f1
  f2 := by simpa using h.f2
theorem PlAt.setN {w : World} {b : Nat} {a : PlS} (h : PlAt w b a) (n : Nat) : PlAt (w.setCell ⟨b, 1, none⟩ (.int .i64 (n : Int))) b { a with n := n } where
  lt := by simpa using h.lt
  c0 := by rw [set_other (addr_ne (by omega))]; exact h.c0
  c1 := set_same h.c1
  c2 := by rw [set_other (addr_ne (by omega))]; exact h.c2
  f0 := by simpa using h.f0
  f1 := by simpa using h.f1
  f2 := by simpa using h.f2
theorem PlAt.setE {w : World} {b : Nat} {a : PlS} (h : PlAt w b a) (e : Int) : PlAt (w.setCell ⟨b, 2, none⟩ (.int .i64 e)) b { a with e := e } where
  lt := by simpa using h.lt
  c0 := by rw [set_other (addr_ne (by omega))]; exact h.c0
  c1 := by rw [set_other (addr_ne (by omega))]; exact h.c1
  c2 := set_same h.c2
  f0 := by simpa using h.f0
  f1 := by simpa using h.f1
  f2 := by simpa using h.f2
theorem PlAt.new (w : World) (x : List UInt8) (n : Nat) (ty : TypeId) : PlAt (w.alloc (.cells #[.string (S x), .int .i64 (n : Int), .int .i64 0] ty)) w.heap.size ⟨x, n, 0⟩ where
  lt := by simp
  c0 := by rw [World.cell?_alloc_new]; rfl
  c1 := by rw [World.cell?_alloc_new]; rfl
  c2 := by rw [World.cell?_alloc_new]; rfl
  f0 := by simp
  f1 := by simp
  f2 := by simp
/-- what a method leaves -/
def MPlay (w : World) (b : Nat) (a : PlS) (w' : World) : Prop := PlAt w' b a ∧ Below b w w'
set_option maxHeartbeats 800000 in
set_option maxRecDepth 100000 in
theorem other_any (w : World) (b k : Nat) (a : PlS) (h : PlAt w b a) (hn : a.n ≤ 1000000) (hk : k ≤ 1000) :
    Calls Try.prog 36 #[.pointer (some ⟨b, 0, none⟩), .int .i64 (k : Int)] w fun e w' => e = .returned (.tuple #[]) ∧ MPlay w b (a.other k) w' := by
  obtain ⟨x, n, e⟩ := a
  have HP := Lib.hid h
  have c1 := h.c1; have c2 := h.c2; have f1 := h.f1
  clear h
  unfold PlS.other
  by_cases he : e = 0
  · subst he
    have hw : IntKind.i64.wrap ((n : Int) + (k : Int)) = (n : Int) + (k : Int) := by rw [IntKind.wrap_i64]; simp only at hn; omega
    have HQ := Lib.hid (HP.out.setN (n + k))
    have hcast : ((n + k : Nat) : Int) = (n : Int) + (k : Int) := by omega
    rw [hcast] at HQ
    clear hcast
    simp only at c1 c2 f1 hn
    go_enter Try.func36, Try.ntmps36
    go_wp2
    go_end0
    exact ⟨rfl, HQ.out, (Below.refl b w).setCell (p := ⟨b, 1, none⟩) (Nat.le_refl _) _⟩
  · have he2 : (e == 0) = false := beq_eq_false_iff_ne.2 he
    simp only [he, if_false]
    simp only at c1 c2 f1 hn
    clear he
    go_enter Try.func36, Try.ntmps36
    go_wp2
    go_end0
    exact ⟨rfl, HP.out, Below.refl _ _⟩
theorem below_low {b : Nat} {w w1 w2 : World} (h : Below b w w1) (hb : b < w1.heap.size) (h2 : Below w1.heap.size w1 w2) : Below b w w2 := h.trans (h2.mono (Nat.le_of_lt hb))
set_option maxHeartbeats 1600000 in
set_option maxRecDepth 100000 in
theorem part_any (w : World) (b : Nat) (a : PlS) (v : Value) (p : List Ins) (y : List UInt8) (h : PlAt w b a) (hn : a.n ≤ 1000000) (hA : ArgP w v p) (hv : PValid p) (hy : a.e = 0 → vld y = true) :
    Calls Try.prog 34 #[.pointer (some ⟨b, 0, none⟩), v, .string (S y)] w fun e w' => e = .returned (.string (S (a.part p y).1)) ∧ MPlay w b (a.part p y).2 w' := by
  obtain ⟨x, n, e⟩ := a
  have HP := Lib.hid h
  have c2 := h.c2
  clear h
  unfold PlS.part
  by_cases he : e = 0
  · subst he
    rw [if_pos rfl]
    have hyv := hy rfl
    have hl := hv.1
    have HT := Lib.hid (twin_any w v p hA (by omega))
    have HR := Lib.hid (fun W u h => Run_yes W u p (S y) 2000 h hv (by rw [S_list]; exact hyv) (by omega))
    rw [S_list] at HR
    simp only at c2 hn
    obtain ⟨va, vc, rfl⟩ := hA.form
    cases ho : out p 2000 (first (rd y)) with
    | ok z k =>
      rw [runRes_ok ho] at HR
      have hk : k ≤ 2000 := by obtain ⟨_, _, h1, _⟩ := out_ok ho; exact h1
      have hw : IntKind.i64.wrap ((n : Int) + (k : Int)) = (n : Int) + (k : Int) := by rw [IntKind.wrap_i64]; omega
      have hcast : ((n + k : Nat) : Int) = (n : Int) + (k : Int) := by omega
      clear hA hv hy hyv ho hl
      go_enter Try.func34, Try.ntmps34
      go_wp2_with fail
      refine HT.out.mono ?_
      rintro e w1 ⟨u, rfl, hu, h1⟩
      have HU := Lib.hid hu
      have hp1 := Lib.hid (HP.out.below h1)
      have hb1 := Lib.hid (below_low (Below.refl b w) HP.out.lt h1)
      clear hu h1
      go_wp2_with fail
      refine (HR.out _ _ HU.out).mono ?_
      rintro e w2 ⟨rfl, h2⟩
      have hp2 := Lib.hid (hp1.out.below h2)
      have hb2 := Lib.hid (below_low hb1.out hp1.out.lt h2)
      have hp3 := Lib.hid (hp2.out.setE 0)
      have hp4 := Lib.hid (hp3.out.setN (n + k))
      rw [hcast] at hp4
      have hb4 : Hid (Below b w ((w2.setCell ⟨b, 2, none⟩ (.int .i64 0)).setCell ⟨b, 1, none⟩ (.int .i64 ((n : Int) + (k : Int))))) := Lib.hid ((hb2.out.setCell (p := ⟨b, 2, none⟩) (Nat.le_refl _) _).setCell (p := ⟨b, 1, none⟩) (Nat.le_refl _) _)
      have d2 := hp2.out.c2; have g2 := hp2.out.f2; have d1 := hp2.out.c1; have g1 := hp2.out.f1
      simp only at d2 d1
      clear h2 hcast c2
      go_wp2_with fail
      go_ret
      exact ⟨rfl, hp4.out, hb4.out⟩
    | size =>
      rw [runRes_size ho] at HR
      have hw : IntKind.i64.wrap ((n : Int) + 2000) = (n : Int) + 2000 := by rw [IntKind.wrap_i64]; omega
      have hw0 : IntKind.i64.wrap (n : Int) = (n : Int) := by rw [IntKind.wrap_i64]; omega
      have hcast : ((n + 2000 : Nat) : Int) = (n : Int) + 2000 := by omega
      clear hA hv hy hyv ho hl
      go_enter Try.func34, Try.ntmps34
      go_wp2_with fail
      refine HT.out.mono ?_
      rintro e w1 ⟨u, rfl, hu, h1⟩
      have HU := Lib.hid hu
      have hp1 := Lib.hid (HP.out.below h1)
      have hb1 := Lib.hid (below_low (Below.refl b w) HP.out.lt h1)
      clear hu h1
      go_wp2_with fail
      refine (HR.out _ _ HU.out).mono ?_
      rintro e w2 ⟨rfl, h2⟩
      have hp2 := Lib.hid (hp1.out.below h2)
      have hb2 := Lib.hid (below_low hb1.out hp1.out.lt h2)
      have hp3 := Lib.hid (hp2.out.setE 3)
      have hp4 := Lib.hid (hp3.out.setN n)
      have hp5 := Lib.hid (hp4.out.setN (n + 2000))
      rw [hcast] at hp5
      have hb5 : Hid (Below b w (((w2.setCell ⟨b, 2, none⟩ (.int .i64 3)).setCell ⟨b, 1, none⟩ (.int .i64 (n : Int))).setCell ⟨b, 1, none⟩ (.int .i64 ((n : Int) + 2000)))) := Lib.hid (((hb2.out.setCell (p := ⟨b, 2, none⟩) (Nat.le_refl _) _).setCell (p := ⟨b, 1, none⟩) (Nat.le_refl _) _).setCell (p := ⟨b, 1, none⟩) (Nat.le_refl _) _)
      have d2 := hp2.out.c2; have g2 := hp2.out.f2; have d1 := hp2.out.c1; have g1 := hp2.out.f1
      have k1 := hp4.out.c1; have k2 := hp4.out.f1
      simp only at d2 d1 k1
      clear h2 hcast c2
      go_wp2_with fail
      go_ret
      exact ⟨rfl, hp5.out, hb5.out⟩
    | fuel =>
      rw [runRes_fuel ho] at HR
      have hw : IntKind.i64.wrap ((n : Int) + 2000) = (n : Int) + 2000 := by rw [IntKind.wrap_i64]; omega
      have hw0 : IntKind.i64.wrap (n : Int) = (n : Int) := by rw [IntKind.wrap_i64]; omega
      have hcast : ((n + 2000 : Nat) : Int) = (n : Int) + 2000 := by omega
      clear hA hv hy hyv ho hl
      go_enter Try.func34, Try.ntmps34
      go_wp2_with fail
      refine HT.out.mono ?_
      rintro e w1 ⟨u, rfl, hu, h1⟩
      have HU := Lib.hid hu
      have hp1 := Lib.hid (HP.out.below h1)
      have hb1 := Lib.hid (below_low (Below.refl b w) HP.out.lt h1)
      clear hu h1
      go_wp2_with fail
      refine (HR.out _ _ HU.out).mono ?_
      rintro e w2 ⟨rfl, h2⟩
      have hp2 := Lib.hid (hp1.out.below h2)
      have hb2 := Lib.hid (below_low hb1.out hp1.out.lt h2)
      have hp3 := Lib.hid (hp2.out.setE 7)
      have hp4 := Lib.hid (hp3.out.setN n)
      have hp5 := Lib.hid (hp4.out.setN (n + 2000))
      rw [hcast] at hp5
      have hb5 : Hid (Below b w (((w2.setCell ⟨b, 2, none⟩ (.int .i64 7)).setCell ⟨b, 1, none⟩ (.int .i64 (n : Int))).setCell ⟨b, 1, none⟩ (.int .i64 ((n : Int) + 2000)))) := Lib.hid (((hb2.out.setCell (p := ⟨b, 2, none⟩) (Nat.le_refl _) _).setCell (p := ⟨b, 1, none⟩) (Nat.le_refl _) _).setCell (p := ⟨b, 1, none⟩) (Nat.le_refl _) _)
      have d2 := hp2.out.c2; have g2 := hp2.out.f2; have d1 := hp2.out.c1; have g1 := hp2.out.f1
      have k1 := hp4.out.c1; have k2 := hp4.out.f1
      simp only at d2 d1 k1
      clear h2 hcast c2
      go_wp2_with fail
      go_ret
      exact ⟨rfl, hp5.out, hb5.out⟩
  · have he2 : (e != 0) = true := by rw [bne_iff_ne]; exact he
    rw [if_neg (by exact he)]
    simp only at c2
    clear he hy hA hv
    go_enter Try.func34, Try.ntmps34
    go_wp2
    go_ret
    exact ⟨rfl, HP.out, Below.refl _ _⟩
set_option maxHeartbeats 1600000 in
set_option maxRecDepth 100000 in
theorem cleaned_any (w : World) (b : Nat) (a : PlS) (v : Value) (p : List Ins) (y : List UInt8) (h : PlAt w b a) (hn : a.n ≤ 900000) (hA : ∀ W, Below b w W → ArgP W v p) (hv : PValid p) (hy : a.e = 0 → vld y = true) :
    Calls Try.prog 33 #[.pointer (some ⟨b, 0, none⟩), v, .string (S y)] w fun e w' => e = .returned (.string (S (a.cleaned p y).1)) ∧ MPlay w b (a.cleaned p y).2 w' := by
  have HG := Lib.hid (Regs_arg w v p (hA w (Below.refl _ _)) hv)
  rw [← rn_eq] at HG
  have hr1 := rn_pos p; have hr2 := rn_le hv
  have HN := other_n a (rn p - 1)
  have HO := Lib.hid (fun W (hW : PlAt W b a) => other_any W b (rn p - 1) a hW (by omega) (by omega))
  have hcast : (((rn p - 1 : Nat)) : Int) = (rn p : Int) - 1 := by omega
  rw [hcast] at HO
  have hoe : (a.other (rn p - 1)).e = a.e := by unfold PlS.other; split <;> rfl
  have HPT := Lib.hid (fun W (hW : PlAt W b (a.other (rn p - 1))) (hAW : ArgP W v p) => part_any W b (a.other (rn p - 1)) v p y hW (by omega) hAW hv (fun h0 => hy (by rw [← hoe]; exact h0)))
  have hw : IntKind.i64.wrap ((rn p : Int) - 1) = (rn p : Int) - 1 := by rw [IntKind.wrap_i64]; omega
  unfold PlS.cleaned
  generalize a.other (rn p - 1) = a2 at *
  obtain ⟨va, vc, rfl⟩ := (hA w (Below.refl _ _)).form
  have HP := Lib.hid h
  have HA := Lib.hid hA
  clear h hA hv hy hcast hoe HN hn
  go_enter Try.func33, Try.ntmps33
  go_wp2_with fail
  refine HG.out.mono ?_
  rintro e w1 ⟨rfl, h1⟩
  have hp1 := Lib.hid (HP.out.below h1)
  have hb1 := Lib.hid (below_low (Below.refl b w) HP.out.lt h1)
  clear h1
  go_wp2_with fail
  refine (HO.out _ hp1.out).mono ?_
  rintro e w2 ⟨rfl, hp2, h2⟩
  have HP2 := Lib.hid hp2
  have hb2 := Lib.hid (hb1.out.trans h2)
  clear hp2 h2
  go_wp2_with fail
  refine (HPT.out _ HP2.out (HA.out _ hb2.out)).mono ?_
  rintro e w3 ⟨rfl, hp3, h3⟩
  have HP3 := Lib.hid hp3
  have hb3 := Lib.hid (hb2.out.trans h3)
  clear hp3 h3
  go_wp2
  go_ret
  exact ⟨rfl, HP3.out, hb3.out⟩
/-- what Run returns, as the play says -/
theorem ends_res {cs : List Ins} {t : Tr} {a : PlS} (h : EndsP cs (first t) a) : ∃ (y : List UInt8) (m : Nat), runRes cs a.n t = .tuple #[.string (S y), .int .i64 (m : Int), .int .i64 a.e] ∧ (a.e = 0 → y = a.x ∧ m = a.n) := by
  rcases h with ⟨he, z, hx, ho⟩ | ⟨he, ho⟩ | ⟨he, ho⟩
  · exact ⟨tx z, a.n, by rw [runRes_ok ho, he], fun _ => ⟨hx.symm, rfl⟩⟩
  · exact ⟨[], 0, by rw [runRes_size ho, he]; rfl, fun h => by omega⟩
  · exact ⟨[], 0, by rw [runRes_fuel ho, he]; rfl, fun h => by omega⟩
set_option maxHeartbeats 3200000 in
set_option maxRecDepth 100000 in
theorem ends_any (w : World) (b : Nat) (a : PlS) (v : Value) (cs : List Ins) (x : List UInt8) (h : PlAt w b a) (hn : a.n ≤ 10000000) (hA : ArgP w v cs) (hv : PValid cs) (hx : vld x = true) (he : EndsP cs (first (rd x)) a) :
    Calls Try.prog 35 #[.pointer (some ⟨b, 0, none⟩), v, .string (S x)] w fun e w' => e = .returned (.bool true) ∧ Below w.heap.size w w' := by
  obtain ⟨y, m, hr, hym⟩ := ends_res he
  obtain ⟨ax, n, e⟩ := a
  have hl := hv.1
  have HT := Lib.hid (fun W h => twin_any W v cs h (by omega))
  have HA := Lib.hid (fun W (hW : Below w.heap.size w W) => hA.below hW)
  have HR := Lib.hid (fun W u h => Run_yes W u cs (S x) n h hv (by rw [S_list]; exact hx) hn)
  rw [S_list, hr] at HR
  have HP := Lib.hid h
  obtain ⟨va, vc, rfl⟩ := hA.form
  have c0 := h.c0; have c1 := h.c1; have c2 := h.c2
  simp only at c0 c1 c2 hn
  have C0 := Lib.hid c0; have C1 := Lib.hid c1; have C2 := Lib.hid c2
  by_cases h0 : e = 0
  · subst h0
    obtain ⟨rfl, rfl⟩ := hym rfl
    have hss : ((S y).toList == (S y).toList) = true := by simp
    clear h hA hv hx he hr hym hl c0 c1 c2
    generalize S y = sx at *
    go_enter Try.func35, Try.ntmps35
    go_wp2_with fail
    go_region_held3 (fun w' => w'.cell? ⟨b, 1, none⟩ = some (.int .i64 (m : Int))) (first | exact C1.out | exact k8 | exact k9 | go_keep)
      (first
        | (go_simp; go_at_call 16; refine (HT.out _ (HA.out _ (by first | exact Below.refl _ _ | exact (Below.refl _ _).drew))).mono ?_; rintro e w8 ⟨u8, rfl, hu8, h8⟩; have k8 := cell_keep h8 C1.out)
        | (go_simp; go_at_call 15; refine (HR.out _ _ hu8).mono ?_; rintro e w9 ⟨rfl, h9⟩; have k9 := cell_keep h9 k8))
    have c0 := cell_keep h9 (cell_keep h8 C0.out)
    have c1 := cell_keep h9 (cell_keep h8 C1.out)
    have c2 := cell_keep h9 (cell_keep h8 C2.out)
    have HB := Lib.hid (bstep ((Below.refl w.heap.size w).drew.trans h8) h9)
    clear h8 h9 k8 k9 hu8
    go_wp2
    go_ret
    exact ⟨rfl, HB.out⟩
  · have he2 : (e != 0) = true := by rw [bne_iff_ne]; exact h0
    have he3 : (e == e) = true := by simp
    clear h hA hv hx he hr hym hl c0 c1 c2 h0
    go_enter Try.func35, Try.ntmps35
    go_wp2_with fail
    go_region_held3 (fun w' => w'.cell? ⟨b, 1, none⟩ = some (.int .i64 (n : Int))) (first | exact C1.out | exact k8 | exact k9 | go_keep)
      (first
        | (go_simp; go_at_call 16; refine (HT.out _ (HA.out _ (by first | exact Below.refl _ _ | exact (Below.refl _ _).drew))).mono ?_; rintro e w8 ⟨u8, rfl, hu8, h8⟩; have k8 := cell_keep h8 C1.out)
        | (go_simp; go_at_call 15; refine (HR.out _ _ hu8).mono ?_; rintro e w9 ⟨rfl, h9⟩; have k9 := cell_keep h9 k8))
    have c0 := cell_keep h9 (cell_keep h8 C0.out)
    have c1 := cell_keep h9 (cell_keep h8 C1.out)
    have c2 := cell_keep h9 (cell_keep h8 C2.out)
    have HB := Lib.hid (bstep ((Below.refl w.heap.size w).drew.trans h8) h9)
    clear h8 h9 k8 k9 hu8
    go_wp2
    go_ret
    exact ⟨rfl, HB.out⟩
end Go.Proofs.Ytmhoacnbmbhcjab

namespace Go.Proofs.Ytmhoacnbmbhcjab
open Go.RowKit Pl

set_option maxHeartbeats 800000 in
set_option maxRecDepth 100000 in
theorem fits_any (w : World) (v : Value) (cs : List Ins) (r : Bool) (h : ArgP w v cs) (hl : cs.length ≤ 281474976710656) (hz : ∀ x ∈ cs, x.tree.length ≤ 281474976710656) (hr : r = true ↔ FitsP cs) :
    Calls Try.prog 40 #[v] w fun e w' => e = .returned (.bool r) ∧ Below w.heap.size w w' := by
  obtain ⟨a, c, rfl⟩ := h.form
  by_cases h4 : cs.length ≤ 4000
  · have HT := Lib.hid (Trees_arg w _ cs h h4 hz)
    have h4' : (cs.length : Int) ≤ 4000 := by omega
    have HR := Lib.hid hr
    have hq : (trees cs : Int) = (trees cs : Int) := rfl
    by_cases h5 : trees cs ≤ 2000000
    · have hrt : r = true := hr.2 ⟨h4, h5⟩
      subst hrt
      have h5' : (trees cs : Int) ≤ 2000000 := by omega
      generalize trees cs = q at *
      generalize cs.length = n at *
      clear h hr hz hq
      go_enter Try.func40, Try.ntmps40
      go_wp2_with fail
      refine HT.out.mono ?_
      rintro e w1 ⟨rfl, rfl⟩
      go_wp2
      go_ret
      exact ⟨rfl, Below.refl _ _⟩
    · have hrf : r = false := by
        cases r with
        | false => rfl
        | true => exact absurd (hr.1 rfl).2 h5
      subst hrf
      have h5' : decide ((trees cs : Int) ≤ 2000000) = false := by rw [decide_eq_false_iff_not]; omega
      generalize trees cs = q at *
      generalize cs.length = n at *
      clear h hr hz hq
      go_enter Try.func40, Try.ntmps40
      go_wp2_with fail
      refine HT.out.mono ?_
      rintro e w1 ⟨rfl, rfl⟩
      go_wp2
      go_ret
      exact ⟨rfl, Below.refl _ _⟩
  · have hrf : r = false := by
      cases r with
      | false => rfl
      | true => exact absurd (hr.1 rfl).1 h4
    subst hrf
    have h4' : decide ((cs.length : Int) ≤ 4000) = false := by rw [decide_eq_false_iff_not]; omega
    generalize cs.length = n at *
    clear h hr hz
    go_enter Try.func40, Try.ntmps40
    go_wp2
    go_ret
    exact ⟨rfl, Below.refl _ _⟩
theorem fits_bool (cs : List Ins) : ∃ r : Bool, r = true ↔ FitsP cs := by
  by_cases h : FitsP cs
  · exact ⟨true, by simp [h]⟩
  · exact ⟨false, by simp [h]⟩
set_option maxHeartbeats 3200000 in
set_option maxRecDepth 100000 in
theorem due_any (w : World) (b off cap : Nat) (pss : List (List Ins)) (vm : Value) (cs : List Ins) (hc : PiecesAt w b off pss) (hm : pss.length ≤ 6000000000000) (hs : ∀ p ∈ pss, SizeP p) (hA : (∀ p ∈ pss, PValid p) → ArgP w vm cs) (hmf : ∃ a c, vm = .slice a cs.length c)
    (hl : cs.length ≤ 281474976710656) (hz : ∀ x ∈ cs, x.tree.length ≤ 281474976710656) :
    Calls Try.prog 12 #[.slice (some ⟨b, off, none⟩) pss.length cap, vm] w fun e w' => e = .returned (.int .i64 (dueP pss cs)) ∧ Below w.heap.size w w' := by
  obtain ⟨fr, hfr⟩ := fits_bool cs
  have HFI := Lib.hid (fun W (h : ArgP W vm cs) => fits_any W vm cs fr h hl hz hfr)
  have HFR := Lib.hid hfr
  obtain ⟨ma, mc, rfl⟩ := hmf
  generalize hnn : pss.length = n at *
  have HN := Lib.hid hnn; have HC := Lib.hid hc; have HS := Lib.hid hs; have HA := Lib.hid hA
  have hbw := hc.lt
  clear hnn hc hs hA hz hfr
  go_enter Try.func12, Try.ntmps12
  go_wp2
  go_loopw [5] (fun i wr => ∃ k : Nat, k ≤ n ∧ i = .int .i64 k ∧ Hid (∀ j p, j < k → pss[j]? = some p → PValid p) ∧ Below w.heap.size w wr) (fun i _ => n - (intOf i).toNat)
  case atStart => exact ⟨0, Nat.zero_le _, rfl, Lib.hid (fun j p h => by omega), Below.refl _ _⟩
  case round =>
    obtain ⟨k, hk, rfl, HV, hb⟩ := hrel
    have hsz := hb.size
    by_cases hlt : k < n
    · have hk1 : (k : Int) < (n : Int) := by omega
      obtain ⟨p, hp⟩ := piece_at (pss := pss) (k := k) (by rw [HN.out]; exact hlt)
      obtain ⟨u, hcell, hA⟩ := (HC.out.below hb).piece k p hp
      obtain ⟨hpl, hpz⟩ := HS.out p (List.mem_of_getElem? hp)
      obtain ⟨pa, pcap, rfl⟩ := hA.form
      have HP := Lib.hid hp
      have HAP := Lib.hid hA
      by_cases hv : PValid p
      · have HR := Lib.hid (PV_arg wr _ p true hA hpl hpz (by simp [hv]))
        have HVV := Lib.hid hv
        have HV2 : Hid (∀ j p, j < k + 1 → pss[j]? = some p → PValid p) := Lib.hid (fun j p' hj hp' => by
          by_cases h : j = k
          · subst h
            have h3 := HP.out
            rw [hp'] at h3
            cases h3; exact HVV.out
          · exact HV.out j p' (by omega) hp')
        clear hp hA hv hpz
        generalize p.length = q at *
        go_wp2_with fail
        refine HR.out.mono ?_
        rintro e w2 ⟨rfl, h2⟩
        have hb2 := Lib.hid (hb.trans (h2.mono hsz))
        clear h2
        go_wp2_with fail
        go_roundw
        case rel => exact ⟨k + 1, by omega, by go_num, HV2, hb2.out⟩
        case measure => simp [intOf]; omega
      · have HR := Lib.hid (PV_arg wr _ p false hA hpl hpz (by simp [hv]))
        have HX : Hid (dueP pss cs = 1) := Lib.hid (due_form ⟨p, List.mem_of_getElem? hp, hv⟩)
        clear hp hA hv hpz
        generalize p.length = q at *
        go_wp2_with fail
        refine HR.out.mono ?_
        rintro e w2 ⟨rfl, h2⟩
        have hb2 := Lib.hid (hb.trans (h2.mono hsz))
        clear h2
        go_wp2_with fail
        go_ret
        exact ⟨ret_int HX.out.symm, hb2.out⟩
    · obtain rfl : k = n := by omega
      have HALL : Hid (∀ p ∈ pss, PValid p) := Lib.hid (fun p hp => by
        obtain ⟨j, hj⟩ := List.mem_iff_getElem?.1 hp
        exact HV.out j p (by have := (List.getElem?_eq_some_iff.1 hj).1; have := HN.out; omega) hj)
      have HB := Lib.hid hb
      clear HV hb
      go_wp2
      go_loopw [6] (fun i w2 => ∃ j : Nat, j ≤ k ∧ i = .int .i64 j ∧ Hid (∀ l p, l < j → pss[l]? = some p → rn p ≤ 28) ∧ Below w.heap.size w w2) (fun i _ => k - (intOf i).toNat)
      case atStart => exact ⟨0, Nat.zero_le _, rfl, Lib.hid (fun l p h => by omega), HB.out⟩
      case round =>
        obtain ⟨j, hj, rfl, HF, hb2⟩ := hrel
        have hsz2 := hb2.size
        by_cases hlt2 : j < k
        · obtain ⟨p, hp⟩ := piece_at (pss := pss) (k := j) (by rw [HN.out]; exact hlt2)
          obtain ⟨u, hcell, hA⟩ := (HC.out.below hb2).piece j p hp
          obtain ⟨pa, pcap, rfl⟩ := hA.form
          have hj1 : (j : Int) < (k : Int) := by omega
          have HP := Lib.hid hp
          have HR := Lib.hid (Regs_arg _ _ p hA (HALL.out p (List.mem_of_getElem? hp)))
          rw [← rn_eq] at HR
          by_cases h28 : rn p ≤ 28
          · have h28' : ¬ (28 : Int) < (rn p : Int) := by omega
            have HF2 : Hid (∀ l p, l < j + 1 → pss[l]? = some p → rn p ≤ 28) := Lib.hid (fun l p' hl hp' => by
              by_cases h : l = j
              · subst h
                have h3 := HP.out
                rw [hp'] at h3
                cases h3; exact h28
              · exact HF.out l p' (by omega) hp')
            clear hp hA
            generalize p.length = q at *
            go_wp2_with fail
            refine HR.out.mono ?_
            rintro e w3 ⟨rfl, h3⟩
            have hb3 := Lib.hid (hb2.trans (h3.mono hsz2))
            clear h3
            go_wp2_with fail
            go_roundw
            case rel => exact ⟨j + 1, by omega, by go_num, HF2, hb3.out⟩
            case measure => simp [intOf]; omega
          · have h28' : (28 : Int) < (rn p : Int) := by omega
            have HX : Hid (dueP pss cs = 8) := Lib.hid (due_regs HALL.out ⟨p, List.mem_of_getElem? hp, by omega⟩)
            clear hp hA
            generalize p.length = q at *
            go_wp2_with fail
            refine HR.out.mono ?_
            rintro e w3 ⟨rfl, h3⟩
            have hb3 := Lib.hid (hb2.trans (h3.mono hsz2))
            clear h3
            go_wp2_with fail
            go_ret
            exact ⟨ret_int HX.out.symm, hb3.out⟩
        · obtain rfl : j = k := by omega
          have HFF : Hid (∀ p ∈ pss, rn p ≤ 28) := Lib.hid (fun p hp => by
            obtain ⟨l, hl⟩ := List.mem_iff_getElem?.1 hp
            exact HF.out l p (by have := (List.getElem?_eq_some_iff.1 hl).1; have := HN.out; omega) hl)
          have HAM := Lib.hid ((HA.out HALL.out).below hb2)
          have HX : Hid (dueP pss cs = if fr = true then 0 else 3) := Lib.hid (by
            unfold dueP
            rw [if_neg (by rintro ⟨p, h1, h2⟩; exact h2 (HALL.out p h1)), if_neg (by rintro ⟨p, h1, h3⟩; have := HFF.out p h1; omega)]
            by_cases h : FitsP cs
            · rw [if_pos h, if_pos (HFR.out.2 h)]
            · rw [if_neg h, if_neg (fun h2 => h (HFR.out.1 h2))])
          have HZ := Lib.hid (HFI.out _ HAM.out)
          clear HF HALL
          cases fr with
          | true =>
            go_wp2_with fail
            refine HZ.out.mono ?_
            rintro e w3 ⟨rfl, h3⟩
            have hb3 := Lib.hid (hb2.trans (h3.mono hsz2))
            clear h3
            go_wp2_with fail
            go_ret
            exact ⟨ret_int HX.out.symm, hb3.out⟩
          | false =>
            go_wp2_with fail
            refine HZ.out.mono ?_
            rintro e w3 ⟨rfl, h3⟩
            have hb3 := Lib.hid (hb2.trans (h3.mono hsz2))
            clear h3
            go_wp2_with fail
            go_ret
            exact ⟨ret_int HX.out.symm, hb3.out⟩
end Go.Proofs.Ytmhoacnbmbhcjab
