/- Layer 4's law: its awake. By an AI agent. -/
import Derived.Test.YtpiahjbpidcjpaaBldb
import Derived.Test.YtpiahjbpidcjpaaComp
import Derived.Test.YtpiahjbpidcjpaaText
namespace Go.Proofs.Ytpiahjbpidcjpaa
open Go.RowKit Pl

def rdC (t : List UInt8) : Tr := if t = [49, 48, 48] then .pair .nil .nil else .nil
def nilB : Tr → Bool | .nil => true | .pair _ _ => false
theorem nilB_iff (t : Tr) : nilB t = true ↔ t = .nil := by cases t <;> simp [nilB]
def stepC (x : Ins) (s : St) : Option St :=
  if x.op = 0 then some (s.put x.a (rdC x.tree))
  else if x.op = 1 then some (s.put x.a (s.reg x.b))
  else if x.op = 2 then (if (tx (.pair (s.reg x.b) (s.reg x.c))).length ≤ 2000000 then some (s.put x.a (.pair (s.reg x.b) (s.reg x.c))) else none)
  else if x.op = 3 then some (s.put x.a (hdT (s.reg x.b)))
  else if x.op = 4 then some (s.put x.a (tlT (s.reg x.b)))
  else (if nilB (s.reg x.a) = true then some ⟨s.at_ + 1, s.regs⟩ else some ⟨((s.at_ : Int) + x.b).toNat, s.regs⟩)
theorem stepC_is {x : Ins} (h : x.op = 0 → rd x.tree = rdC x.tree) (s : St) : stepI x s = stepC x s := by
  unfold stepI stepC
  by_cases h0 : x.op = 0
  · rw [if_pos h0, if_pos h0, h h0]
  rw [if_neg h0, if_neg h0]
  split
  · rfl
  split
  · rfl
  split
  · rfl
  split
  · rfl
  by_cases h1 : s.reg x.a = .nil
  · rw [if_pos h1, if_pos ((nilB_iff _).2 h1)]
  · rw [if_neg h1, if_neg (fun h => h1 ((nilB_iff _).1 h))]
def runC (ps : List Ins) : Nat → St → Option (St × Nat)
  | 0, s => some (s, 0)
  | k + 1, s => if s.at_ = ps.length then some (s, 0) else ((ps[s.at_]?).bind fun x => stepC x s).bind fun t => (runC ps k t).map fun r => (r.1, r.2 + 1)
def outC (cs : List Ins) (K : Nat) (s : St) : Out :=
  match runC cs K s with
  | none => .size
  | some (t, n) => if t.at_ = cs.length then .ok (t.reg 0) n else .fuel
theorem runC_is {ps : List Ins} (h : ∀ x ∈ ps, x.op = 0 → rd x.tree = rdC x.tree) : ∀ (K : Nat) (s : St), runTo ps K s = runC ps K s := by
  intro K
  induction K with
  | zero => intro s; rfl
  | succ K ih =>
    intro s
    rw [runTo, runC]
    split
    · rfl
    · have e : stepP ps s = (ps[s.at_]?).bind fun x => stepC x s := by
        unfold stepP
        cases hx : ps[s.at_]? with
        | none => rfl
        | some x => exact stepC_is (h x (List.mem_of_getElem? hx)) s
      rw [e]
      congr 1
      funext t
      rw [ih]
theorem outC_is {ps : List Ins} (h : ∀ x ∈ ps, x.op = 0 → rd x.tree = rdC x.tree) (K : Nat) (s : St) : out ps K s = outC ps K s := by
  unfold out outC; rw [runC_is h]; rfl
theorem out_more {ps : List Ins} {K L : Nat} {s : St} {z : Tr} {n : Nat} (h : out ps K s = .ok z n) (hn : n ≤ L) : out ps L s = .ok z n := by
  obtain ⟨t, h1, _, h3, h4⟩ := out_ok h
  rw [out_end h1 hn h3, h4]
def t3 : Tr := .pair .nil (.pair .nil .nil)
def t5 : Tr := .pair .nil (.pair .nil (.pair .nil .nil))
theorem ex_then : out (thenL [pTail, pTail]) 2000 (first t3) = .ok .nil 2 :=
  out_more (K := 10) ((outC_is (by intro x hx; simp [thenL, behind, pTail, cleanL, rn, regs, rstep] at hx; subst hx; simp) 10 _).trans rfl) (by omega)
theorem pair_nil : pairL [] [] = [moveI 1 0, moveI 2 0, moveI 0 1, consI 0 2 0] := rfl
theorem ex_pair : out (pairL [] []) 2000 (first .nil) = .ok (.pair .nil .nil) 4 := by
  rw [pair_nil]
  exact out_more (K := 10) ((outC_is (by intro x hx; simp [moveI, consI] at hx; rcases hx with rfl | rfl | rfl | rfl <;> simp) 10 _).trans rfl) (by omega)
theorem while_tail : whileL [] pTail = [moveI 1 0, jumpI 0 4, moveI 0 1, setI 1 [49, 48, 48], jumpI 1 5, moveI 0 1, ⟨4, 0, 0, 0, []⟩, setI 1 [49, 48, 48], jumpI 1 (-8)] := rfl
theorem ex_while : out (whileL [] pTail) 2000 (first t5) = .ok .nil 23 := by
  rw [while_tail]
  refine out_more (K := 40) ((outC_is ?_ 40 _).trans rfl) (by omega)
  intro x hx h0
  simp only [List.mem_cons, List.not_mem_nil, or_false] at hx
  rcases hx with rfl | rfl | rfl | rfl | rfl | rfl | rfl | rfl | rfl <;> first | exact rd_100 | (simp [moveI, jumpI] at h0)
theorem then_valid : PValid (thenL [pTail, pTail]) := (fits_valid (allR_then (by intro p hp; simp at hp; subst hp; exact pTail_valid))).2 ⟨by decide, by decide⟩
theorem pairN_valid : PValid (pairL [] []) := (fits_valid (allR_pair pNil_valid pNil_valid (by decide) (by decide))).2 ⟨by decide, by decide⟩
theorem while_valid : PValid (whileL [] pTail) := (fits_valid (allR_while pNil_valid pTail_valid (by decide) (by decide))).2 ⟨by decide, by decide⟩
theorem due_ok {l : List (List Ins)} {cs : List Ins} (h : ∀ p ∈ l, PValid p) (h2 : ∀ p ∈ l, rn p ≤ 28) (h3 : PValid cs) : dueP l cs = 0 := by
  unfold dueP
  rw [if_neg (by rintro ⟨p, h1, h2⟩; exact h2 (h p h1)), if_neg (by rintro ⟨p, h1, h3⟩; have := h2 p h1; omega), if_pos ⟨h3.1, h3.2.1⟩]
theorem BPost.ok {w w' : World} {cs : List Ins} {e : Ending} (h : BPost w 0 cs e w') : ∃ v, e = .returned (.tuple #[v, .int .i64 0]) ∧ ArgP w' v cs ∧ Below w.heap.size w w' := by
  obtain ⟨h1, ⟨_, v, h2, h3⟩ | ⟨h2, _⟩⟩ := h
  · exact ⟨v, h2, h3, h1⟩
  · exact absurd rfl h2
theorem runRes_ok {ps : List Ins} {K n : Nat} {t z : Tr} (h : out ps K (first t) = .ok z n) : runRes ps K t = .tuple #[.string (S (tx z)), .int .i64 (n : Int), .int .i64 0] := by
  obtain ⟨s, h1, h2, h3, h4⟩ := out_ok h
  unfold runRes
  rw [runTo_is h1 h2 (.inr h3)]
  simp only [if_pos h3, h4]
theorem runRes_size {ps : List Ins} {K : Nat} {t : Tr} (h : out ps K (first t) = .size) : runRes ps K t = .tuple #[.string (S []), .int .i64 0, .int .i64 3] := by
  unfold out at h; unfold runRes
  cases hr : runTo ps K (first t) with
  | none => rfl
  | some r =>
    obtain ⟨s, n⟩ := r
    rw [hr] at h
    simp only at h
    split at h <;> cases h
theorem runRes_fuel {ps : List Ins} {K : Nat} {t : Tr} (h : out ps K (first t) = .fuel) : runRes ps K t = .tuple #[.string (S []), .int .i64 0, .int .i64 7] := by
  unfold out at h; unfold runRes
  cases hr : runTo ps K (first t) with
  | none => rw [hr] at h; cases h
  | some r =>
    obtain ⟨s, n⟩ := r
    rw [hr] at h
    simp only at h
    split at h
    · cases h
    · rename_i h1; simp only [if_neg h1]
set_option maxHeartbeats 400000 in
set_option maxRecDepth 100000 in
theorem tail4_any (w : World) : Calls Try.prog 101 #[] w fun e w' => e = .returned (.slice (some ⟨w.heap.size, 0, none⟩) 1 1) ∧ w' = w.alloc (.cells (progV pTail).toArray 57) := by
  go_enter Try.func101, Try.ntmps101
  go_wp2
  go_ret
  exact ⟨rfl, rfl⟩
set_option maxHeartbeats 800000 in
set_option maxRecDepth 100000 in
theorem returns4_yes (w : World) (v : Value) (ps : List Ins) (t z : Tr) (n : Nat) (h : ArgP w v ps) (hv : PValid ps) (hx : (tx t).length ≤ 2000000) (ho : out ps 2000 (first t) = .ok z n) :
    Calls Try.prog 102 #[v, .string (S (tx t)), .string (S (tx z))] w fun e w' => e = .returned (.bool true) ∧ Below w.heap.size w w' := by
  have H := Lib.hid (Run_yes w v ps (S (tx t)) 2000 h hv (by rw [S_list]; exact vld_tx hx) (by omega))
  rw [S_list, rd_tx, runRes_ok ho] at H
  have hss : ((S (tx z)).toList == (S (tx z)).toList) = true := by simp
  generalize S (tx z) = y at *
  clear h hv ho
  go_enter Try.func102, Try.ntmps102
  go_wp2_with fail
  refine H.out.mono ?_
  rintro e w1 ⟨rfl, h1⟩
  go_wp2
  go_ret
  exact ⟨rfl, h1⟩
def exText : List UInt8 := [109, 111, 118, 101, 32, 49, 32, 48, 59, 32, 109, 111, 118, 101, 32, 50, 32, 48, 59, 32, 109, 111, 118, 101, 32, 48, 32, 49, 59, 32, 99, 111, 110, 115, 32, 48, 32, 50, 32, 48]
theorem dint_0 : dint 0 = [48] := by simp [dint, dg]
theorem dint_1 : dint 1 = [49] := by simp [dint, dg]
theorem dint_2 : dint 2 = [50] := by simp [dint, dg]
theorem txt_pair : txt (pairL [] []) = exText := by
  rw [pair_nil]
  simp [txt, txtTo, textOf, nm, nms, dint_0, dint_1, dint_2, moveI, consI, exText]
def tailO : Obj := .cells (progV pTail).toArray 57
theorem two_tails (w : World) : PiecesAt (((w.alloc tailO).alloc tailO).alloc (.cells #[.slice (some ⟨w.heap.size, 0, none⟩) 1 1, .slice (some ⟨w.heap.size + 1, 0, none⟩) 1 1] 23)) (w.heap.size + 2) 0 [pTail, pTail] ∧
    Below w.heap.size w (((w.alloc tailO).alloc tailO).alloc (.cells #[.slice (some ⟨w.heap.size, 0, none⟩) 1 1, .slice (some ⟨w.heap.size + 1, 0, none⟩) 1 1] 23)) := by
  have A0 : ArgP (w.alloc tailO) (.slice (some ⟨w.heap.size, 0, none⟩) 1 1) pTail := lit_prog w pTail (by decide)
  have A1 := A0.below (alloc_below _ tailO)
  have A2 : ArgP ((w.alloc tailO).alloc tailO) (.slice (some ⟨w.heap.size + 1, 0, none⟩) 1 1) pTail := by
    have h := lit_prog (w.alloc tailO) pTail (by decide)
    rw [World.size_alloc] at h; exact h
  exact ⟨lit_piecesB (by simp) [.slice (some ⟨w.heap.size, 0, none⟩) 1 1, .slice (some ⟨w.heap.size + 1, 0, none⟩) 1 1] [pTail, pTail] ⟨A1, A2, trivial⟩, bstep (bstep (alloc_below _ _) (alloc_below _ _)) (alloc_below _ _)⟩
set_option maxHeartbeats 3200000 in
set_option maxRecDepth 100000 in
theorem awake4_any (w : World) : Calls Try.prog 45 #[] w fun e w' => e = .returned (.bool true) ∧ Below w.heap.size w w' := by
  have e1 : dueP [pTail, pTail] (thenL [pTail, pTail]) = 0 := due_ok (by intro p hp; simp at hp; subst hp; exact pTail_valid) (by intro p hp; simp at hp; subst hp; decide) then_valid
  have e2 : dueP [[], []] (pairL [] []) = 0 := due_ok (by intro p hp; simp at hp; subst hp; exact pNil_valid) (by intro p hp; simp at hp; subst hp; decide) pairN_valid
  have e3 : dueP [[], pTail] (whileL [] pTail) = 0 := due_ok (by intro p hp; simp at hp; rcases hp with rfl | rfl; exact pNil_valid; exact pTail_valid) (by intro p hp; simp at hp; rcases hp with rfl | rfl <;> decide) while_valid
  have sz : ∀ {p}, PValid p → SizeP p := fun h => ⟨by have := h.1; omega, fun x hx => by have := valid_tree h x hx; omega⟩
  have H1 := Lib.hid (fun W b cap h => Then_some W b 0 cap [pTail, pTail] h (by decide) (by intro p hp; simp at hp; subst hp; exact sz pTail_valid))
  have H2 := Lib.hid (fun W => Pair_any W (.slice none 0 0) (.slice none 0 0) [] [] (.inl ⟨rfl, .inl rfl⟩) (.inl ⟨rfl, .inl rfl⟩) (sz pNil_valid) (sz pNil_valid))
  have H3 := Lib.hid (fun W v h => While_any W (.slice none 0 0) v [] pTail (.inl ⟨rfl, .inl rfl⟩) h (sz pNil_valid) (sz pTail_valid))
  rw [e1] at H1
  rw [e2] at H2
  rw [e3] at H3
  have R1 := Lib.hid (fun W v h => returns4_yes W v _ t3 .nil 2 h then_valid (by decide) ex_then)
  have R2 := Lib.hid (fun W v h => returns4_yes W v _ .nil (.pair .nil .nil) 4 h pairN_valid (by decide) ex_pair)
  have R3 := Lib.hid (fun W v h => returns4_yes W v _ t5 .nil 23 h while_valid (by decide) ex_while)
  have R4 := Lib.hid (fun W v h => Text_arg W v (pairL [] []) h pairN_valid)
  rw [txt_pair] at R4
  clear e1 e2 e3 sz
  go_enter Try.func45, Try.ntmps45
  go_wp2_with fail
  refine (tail4_any _).mono ?_
  rintro e w1 ⟨rfl, rfl⟩
  go_wp2_with fail
  refine (tail4_any _).mono ?_
  rintro e w2 ⟨rfl, rfl⟩
  have HT := Lib.hid (two_tails w)
  go_wp2_with fail
  refine (H1.out _ _ 2 HT.out.1).mono ?_
  intro e w3 hJ
  obtain ⟨v3, rfl, ha3, h3⟩ := hJ.ok
  obtain ⟨a3, c3, rfl⟩ := ha3.form
  have hb3 := Lib.hid (bstep HT.out.2 h3)
  have A3 := Lib.hid ha3
  clear ha3 h3 hJ
  go_wp2_with fail
  refine (H2.out _).mono ?_
  intro e w4 hJ
  obtain ⟨v4, rfl, ha4, h4⟩ := hJ.ok
  obtain ⟨a4, c4, rfl⟩ := ha4.form
  have hb4 := Lib.hid (bstep hb3.out h4)
  have A34 := Lib.hid (A3.out.below h4)
  have A4 := Lib.hid ha4
  clear ha4 h4 hJ
  go_wp2_with fail
  refine (tail4_any _).mono ?_
  rintro e w5 ⟨rfl, rfl⟩
  have b5 : Below w4.heap.size w4 (w4.alloc tailO) := alloc_below _ _
  have A5 : ArgP (w4.alloc tailO) (.slice (some ⟨w4.heap.size, 0, none⟩) 1 1) pTail := lit_prog w4 pTail (by decide)
  have HA5 := Lib.hid A5
  have hb5 := Lib.hid (bstep hb4.out b5)
  have A35 := Lib.hid (A34.out.below b5)
  have A45 := Lib.hid (A4.out.below b5)
  clear A5 b5
  go_wp2_with fail
  refine (H3.out _ _ HA5.out).mono ?_
  intro e w6 hJ
  obtain ⟨v6, rfl, ha6, h6⟩ := hJ.ok
  obtain ⟨a6, c6, rfl⟩ := ha6.form
  have hb6 := Lib.hid (bstep hb5.out h6)
  have A36 := Lib.hid (A35.out.below h6)
  have A46 := Lib.hid (A45.out.below h6)
  have A6 := Lib.hid ha6
  clear ha6 h6 hJ
  go_wp2_with fail
  refine (R1.out _ _ A36.out).mono ?_
  rintro e w7 ⟨rfl, h7⟩
  have hb7 := Lib.hid (bstep hb6.out h7)
  have A47 := Lib.hid (A46.out.below h7)
  have A67 := Lib.hid (A6.out.below h7)
  clear h7
  go_wp2_with fail
  refine (R2.out _ _ A47.out).mono ?_
  rintro e w8 ⟨rfl, h8⟩
  have hb8 := Lib.hid (bstep hb7.out h8)
  have A48 := Lib.hid (A47.out.below h8)
  have A68 := Lib.hid (A67.out.below h8)
  clear h8
  go_wp2_with fail
  refine (R4.out _ _ A48.out).mono ?_
  rintro e w9 ⟨rfl, h9⟩
  have hb9 := Lib.hid (bstep hb8.out h9)
  have A69 := Lib.hid (A68.out.below h9)
  clear h9
  have htx : (S exText).toList = [109, 111, 118, 101, 32, 49, 32, 48, 59, 32, 109, 111, 118, 101, 32, 50, 32, 48, 59, 32, 109, 111, 118, 101, 32, 48, 32, 49, 59, 32, 99, 111, 110, 115, 32, 48, 32, 50, 32, 48] := by simp [exText]
  go_wp2_with fail
  refine (R3.out _ _ A69.out).mono ?_
  rintro e w10 ⟨rfl, h10⟩
  have hb10 := Lib.hid (bstep hb9.out h10)
  go_wp2
  go_ret
  exact ⟨rfl, hb10.out⟩
end Go.Proofs.Ytpiahjbpidcjpaa
