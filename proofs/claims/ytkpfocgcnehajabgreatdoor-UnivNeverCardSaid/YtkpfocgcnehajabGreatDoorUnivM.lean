/- The universal program, as a list, and what it does. By an AI agent. -/
import Derived.Test.YtkpfocgcnehajabGreatDoorMth
import Derived.Test.YtkpfocgcnehajabGreatDoorCod
namespace Go.Proofs.YtkpfocgcnehajabGreatDoor
open Go.RowKit Pl
/-- the universal program -/
def univL : List Ins := [
  ⟨3, 5, 0, 0, []⟩,
  ⟨4, 0, 0, 0, []⟩,
  ⟨2, 0, 0, 7, []⟩,
  ⟨0, 10, 0, 0, [49, 48, 48]⟩,
  ⟨5, 10, 98, 0, []⟩,
  ⟨3, 2, 5, 0, []⟩,
  ⟨3, 8, 2, 0, []⟩,
  ⟨4, 1, 2, 0, []⟩,
  ⟨3, 4, 1, 0, []⟩,
  ⟨4, 1, 1, 0, []⟩,
  ⟨5, 8, 3, 0, []⟩,
  ⟨1, 3, 1, 0, []⟩,
  ⟨5, 10, 74, 0, []⟩,
  ⟨4, 8, 8, 0, []⟩,
  ⟨5, 8, 8, 0, []⟩,
  ⟨1, 3, 0, 0, []⟩,
  ⟨5, 10, 3, 0, []⟩,
  ⟨4, 3, 3, 0, []⟩,
  ⟨4, 1, 1, 0, []⟩,
  ⟨5, 1, -2, 0, []⟩,
  ⟨3, 3, 3, 0, []⟩,
  ⟨5, 10, 65, 0, []⟩,
  ⟨4, 8, 8, 0, []⟩,
  ⟨5, 8, 17, 0, []⟩,
  ⟨3, 9, 1, 0, []⟩,
  ⟨1, 3, 0, 0, []⟩,
  ⟨5, 10, 3, 0, []⟩,
  ⟨4, 3, 3, 0, []⟩,
  ⟨4, 9, 9, 0, []⟩,
  ⟨5, 9, -2, 0, []⟩,
  ⟨3, 3, 3, 0, []⟩,
  ⟨4, 1, 1, 0, []⟩,
  ⟨1, 9, 0, 0, []⟩,
  ⟨5, 10, 3, 0, []⟩,
  ⟨4, 9, 9, 0, []⟩,
  ⟨4, 1, 1, 0, []⟩,
  ⟨5, 1, -2, 0, []⟩,
  ⟨3, 9, 9, 0, []⟩,
  ⟨2, 3, 3, 9, []⟩,
  ⟨5, 10, 47, 0, []⟩,
  ⟨4, 8, 8, 0, []⟩,
  ⟨5, 8, 9, 0, []⟩,
  ⟨1, 3, 0, 0, []⟩,
  ⟨5, 10, 3, 0, []⟩,
  ⟨4, 3, 3, 0, []⟩,
  ⟨4, 1, 1, 0, []⟩,
  ⟨5, 1, -2, 0, []⟩,
  ⟨3, 3, 3, 0, []⟩,
  ⟨3, 3, 3, 0, []⟩,
  ⟨5, 10, 37, 0, []⟩,
  ⟨4, 8, 8, 0, []⟩,
  ⟨5, 8, 9, 0, []⟩,
  ⟨1, 3, 0, 0, []⟩,
  ⟨5, 10, 3, 0, []⟩,
  ⟨4, 3, 3, 0, []⟩,
  ⟨4, 1, 1, 0, []⟩,
  ⟨5, 1, -2, 0, []⟩,
  ⟨3, 3, 3, 0, []⟩,
  ⟨4, 3, 3, 0, []⟩,
  ⟨5, 10, 27, 0, []⟩,
  ⟨4, 8, 8, 0, []⟩,
  ⟨1, 3, 0, 0, []⟩,
  ⟨5, 10, 3, 0, []⟩,
  ⟨4, 3, 3, 0, []⟩,
  ⟨4, 4, 4, 0, []⟩,
  ⟨5, 4, -2, 0, []⟩,
  ⟨3, 3, 3, 0, []⟩,
  ⟨5, 3, 2, 0, []⟩,
  ⟨5, 10, 31, 0, []⟩,
  ⟨3, 3, 1, 0, []⟩,
  ⟨4, 1, 1, 0, []⟩,
  ⟨5, 3, 8, 0, []⟩,
  ⟨5, 10, 5, 0, []⟩,
  ⟨4, 1, 1, 0, []⟩,
  ⟨3, 2, 5, 0, []⟩,
  ⟨2, 7, 2, 7, []⟩,
  ⟨4, 5, 5, 0, []⟩,
  ⟨5, 1, -4, 0, []⟩,
  ⟨5, 10, 24, 0, []⟩,
  ⟨5, 10, 5, 0, []⟩,
  ⟨4, 1, 1, 0, []⟩,
  ⟨3, 2, 7, 0, []⟩,
  ⟨2, 5, 2, 5, []⟩,
  ⟨4, 7, 7, 0, []⟩,
  ⟨5, 1, -4, 0, []⟩,
  ⟨5, 10, 17, 0, []⟩,
  ⟨5, 10, 5, 0, []⟩,
  ⟨4, 4, 4, 0, []⟩,
  ⟨3, 2, 0, 0, []⟩,
  ⟨2, 6, 2, 6, []⟩,
  ⟨4, 0, 0, 0, []⟩,
  ⟨5, 4, -4, 0, []⟩,
  ⟨4, 0, 0, 0, []⟩,
  ⟨2, 0, 3, 0, []⟩,
  ⟨5, 10, 4, 0, []⟩,
  ⟨3, 2, 6, 0, []⟩,
  ⟨2, 0, 2, 0, []⟩,
  ⟨4, 6, 6, 0, []⟩,
  ⟨5, 6, -3, 0, []⟩,
  ⟨3, 2, 5, 0, []⟩,
  ⟨2, 7, 2, 7, []⟩,
  ⟨4, 5, 5, 0, []⟩,
  ⟨5, 5, -97, 0, []⟩,
  ⟨3, 0, 0, 0, []⟩]
theorem univL_len : univL.length = 104 := rfl
/-- a state of it: the place, and the eleven registers that it uses -/
def us (k : Nat) (rg ar it va ta re be dn op se ye : Tr) : St := ⟨k, [rg, ar, it, va, ta, re, be, dn, op, se, ye, .nil, .nil, .nil, .nil, .nil, .nil, .nil, .nil, .nil, .nil, .nil, .nil, .nil, .nil, .nil, .nil, .nil, .nil, .nil, .nil, .nil]⟩
/-- from s to t in n steps, or stopped before by a tree that is too large, where B says that it may be -/
def Go (B : Prop) (n : Nat) (s t : St) : Prop := Steps univL s n t ∨ (B ∧ ∃ m u, m < n ∧ Steps univL s m u ∧ u.at_ ≠ univL.length ∧ stepP univL u = none)
theorem Go.refl (B : Prop) (s : St) : Go B 0 s s := .inl .zero
theorem Go.trans {B : Prop} {m n : Nat} {s t u : St} (h : Go B m s t) (k : Go B n t u) : Go B (m + n) s u := by
  rcases h with h | ⟨hb, j, v, hj, hs, h1, h2⟩
  · rcases k with k | ⟨hb, j, v, hj, hs, h1, h2⟩
    · exact .inl (h.then k)
    · exact .inr ⟨hb, m + j, v, by omega, h.then hs, h1, h2⟩
  · exact .inr ⟨hb, j, v, by omega, hs, h1, h2⟩
theorem Go.cast {B : Prop} {m n : Nat} {s t : St} (h : Go B m s t) (e : m = n) : Go B n s t := e ▸ h
theorem Go.one {B : Prop} {s t : St} (he : s.at_ ≠ univL.length) (h : stepP univL s = some t) : Go B 1 s t := .inl (Steps.succ .zero he h)
theorem Go.cons {B : Prop} {s t : St} {z : Tr} (he : s.at_ ≠ univL.length) (hs : stepP univL s = if (tx z).length ≤ 2000000 then some t else none) (h : ¬ B → (tx z).length ≤ 2000000) : Go B 1 s t := by
  by_cases hz : (tx z).length ≤ 2000000
  · exact Go.one he (by rw [hs, if_pos hz])
  · by_cases hb : B
    · exact .inr ⟨hb, 0, s, by omega, .zero, he, by rw [hs, if_neg hz]⟩
    · exact absurd (h hb) hz
section
variable {B : Prop} {rg ar it va ta re be dn op se ye : Tr}
set_option maxRecDepth 10000 in
theorem u0 : Go B 1 (us 0 rg ar it va ta re be dn op se ye) (us 1 rg ar it va ta (hdT rg) be dn op se ye) := Go.one (by show (0 : Nat) ≠ 104; decide) rfl
set_option maxRecDepth 10000 in
theorem u1 : Go B 1 (us 1 rg ar it va ta re be dn op se ye) (us 2 (tlT rg) ar it va ta re be dn op se ye) := Go.one (by show (1 : Nat) ≠ 104; decide) rfl
set_option maxRecDepth 10000 in
theorem u2 (h : ¬ B → (tx (.pair rg dn)).length ≤ 2000000) : Go B 1 (us 2 rg ar it va ta re be dn op se ye) (us 3 (.pair rg dn) ar it va ta re be dn op se ye) := Go.cons (z := .pair rg dn) (by show (2 : Nat) ≠ 104; decide) rfl h
set_option maxRecDepth 10000 in
theorem u3 : Go B 1 (us 3 rg ar it va ta re be dn op se ye) (us 4 rg ar it va ta re be dn op se (rd [49, 48, 48])) := Go.one (by show (3 : Nat) ≠ 104; decide) rfl
set_option maxRecDepth 10000 in
theorem u4y (h : ye ≠ .nil) : Go B 1 (us 4 rg ar it va ta re be dn op se ye) (us 102 rg ar it va ta re be dn op se ye) := Go.one (by show (4 : Nat) ≠ 104; decide) ((show stepP univL (us 4 rg ar it va ta re be dn op se ye) = stepI ⟨5, 10, 98, 0, []⟩ (us 4 rg ar it va ta re be dn op se ye) from rfl).trans ((stepI_5 _ rfl).trans (if_neg h)))
set_option maxRecDepth 10000 in
theorem u4n : Go B 1 (us 4 rg ar it va ta re be dn op se .nil) (us 5 rg ar it va ta re be dn op se .nil) := Go.one (by show (4 : Nat) ≠ 104; decide) ((show stepP univL (us 4 rg ar it va ta re be dn op se .nil) = stepI ⟨5, 10, 98, 0, []⟩ (us 4 rg ar it va ta re be dn op se .nil) from rfl).trans ((stepI_5 _ rfl).trans (if_pos rfl)))
set_option maxRecDepth 10000 in
theorem u5 : Go B 1 (us 5 rg ar it va ta re be dn op se ye) (us 6 rg ar (hdT re) va ta re be dn op se ye) := Go.one (by show (5 : Nat) ≠ 104; decide) rfl
set_option maxRecDepth 10000 in
theorem u6 : Go B 1 (us 6 rg ar it va ta re be dn op se ye) (us 7 rg ar it va ta re be dn (hdT it) se ye) := Go.one (by show (6 : Nat) ≠ 104; decide) rfl
set_option maxRecDepth 10000 in
theorem u7 : Go B 1 (us 7 rg ar it va ta re be dn op se ye) (us 8 rg (tlT it) it va ta re be dn op se ye) := Go.one (by show (7 : Nat) ≠ 104; decide) rfl
set_option maxRecDepth 10000 in
theorem u8 : Go B 1 (us 8 rg ar it va ta re be dn op se ye) (us 9 rg ar it va (hdT ar) re be dn op se ye) := Go.one (by show (8 : Nat) ≠ 104; decide) rfl
set_option maxRecDepth 10000 in
theorem u9 : Go B 1 (us 9 rg ar it va ta re be dn op se ye) (us 10 rg (tlT ar) it va ta re be dn op se ye) := Go.one (by show (9 : Nat) ≠ 104; decide) rfl
set_option maxRecDepth 10000 in
theorem u10y (h : op ≠ .nil) : Go B 1 (us 10 rg ar it va ta re be dn op se ye) (us 13 rg ar it va ta re be dn op se ye) := Go.one (by show (10 : Nat) ≠ 104; decide) ((show stepP univL (us 10 rg ar it va ta re be dn op se ye) = stepI ⟨5, 8, 3, 0, []⟩ (us 10 rg ar it va ta re be dn op se ye) from rfl).trans ((stepI_5 _ rfl).trans (if_neg h)))
set_option maxRecDepth 10000 in
theorem u10n : Go B 1 (us 10 rg ar it va ta re be dn .nil se ye) (us 11 rg ar it va ta re be dn .nil se ye) := Go.one (by show (10 : Nat) ≠ 104; decide) ((show stepP univL (us 10 rg ar it va ta re be dn .nil se ye) = stepI ⟨5, 8, 3, 0, []⟩ (us 10 rg ar it va ta re be dn .nil se ye) from rfl).trans ((stepI_5 _ rfl).trans (if_pos rfl)))
set_option maxRecDepth 10000 in
theorem u11 : Go B 1 (us 11 rg ar it va ta re be dn op se ye) (us 12 rg ar it ar ta re be dn op se ye) := Go.one (by show (11 : Nat) ≠ 104; decide) rfl
set_option maxRecDepth 10000 in
theorem u12y (h : ye ≠ .nil) : Go B 1 (us 12 rg ar it va ta re be dn op se ye) (us 86 rg ar it va ta re be dn op se ye) := Go.one (by show (12 : Nat) ≠ 104; decide) ((show stepP univL (us 12 rg ar it va ta re be dn op se ye) = stepI ⟨5, 10, 74, 0, []⟩ (us 12 rg ar it va ta re be dn op se ye) from rfl).trans ((stepI_5 _ rfl).trans (if_neg h)))
set_option maxRecDepth 10000 in
theorem u12n : Go B 1 (us 12 rg ar it va ta re be dn op se .nil) (us 13 rg ar it va ta re be dn op se .nil) := Go.one (by show (12 : Nat) ≠ 104; decide) ((show stepP univL (us 12 rg ar it va ta re be dn op se .nil) = stepI ⟨5, 10, 74, 0, []⟩ (us 12 rg ar it va ta re be dn op se .nil) from rfl).trans ((stepI_5 _ rfl).trans (if_pos rfl)))
set_option maxRecDepth 10000 in
theorem u13 : Go B 1 (us 13 rg ar it va ta re be dn op se ye) (us 14 rg ar it va ta re be dn (tlT op) se ye) := Go.one (by show (13 : Nat) ≠ 104; decide) rfl
set_option maxRecDepth 10000 in
theorem u14y (h : op ≠ .nil) : Go B 1 (us 14 rg ar it va ta re be dn op se ye) (us 22 rg ar it va ta re be dn op se ye) := Go.one (by show (14 : Nat) ≠ 104; decide) ((show stepP univL (us 14 rg ar it va ta re be dn op se ye) = stepI ⟨5, 8, 8, 0, []⟩ (us 14 rg ar it va ta re be dn op se ye) from rfl).trans ((stepI_5 _ rfl).trans (if_neg h)))
set_option maxRecDepth 10000 in
theorem u14n : Go B 1 (us 14 rg ar it va ta re be dn .nil se ye) (us 15 rg ar it va ta re be dn .nil se ye) := Go.one (by show (14 : Nat) ≠ 104; decide) ((show stepP univL (us 14 rg ar it va ta re be dn .nil se ye) = stepI ⟨5, 8, 8, 0, []⟩ (us 14 rg ar it va ta re be dn .nil se ye) from rfl).trans ((stepI_5 _ rfl).trans (if_pos rfl)))
set_option maxRecDepth 10000 in
theorem u15 : Go B 1 (us 15 rg ar it va ta re be dn op se ye) (us 16 rg ar it rg ta re be dn op se ye) := Go.one (by show (15 : Nat) ≠ 104; decide) rfl
set_option maxRecDepth 10000 in
theorem u16y (h : ye ≠ .nil) : Go B 1 (us 16 rg ar it va ta re be dn op se ye) (us 19 rg ar it va ta re be dn op se ye) := Go.one (by show (16 : Nat) ≠ 104; decide) ((show stepP univL (us 16 rg ar it va ta re be dn op se ye) = stepI ⟨5, 10, 3, 0, []⟩ (us 16 rg ar it va ta re be dn op se ye) from rfl).trans ((stepI_5 _ rfl).trans (if_neg h)))
set_option maxRecDepth 10000 in
theorem u16n : Go B 1 (us 16 rg ar it va ta re be dn op se .nil) (us 17 rg ar it va ta re be dn op se .nil) := Go.one (by show (16 : Nat) ≠ 104; decide) ((show stepP univL (us 16 rg ar it va ta re be dn op se .nil) = stepI ⟨5, 10, 3, 0, []⟩ (us 16 rg ar it va ta re be dn op se .nil) from rfl).trans ((stepI_5 _ rfl).trans (if_pos rfl)))
set_option maxRecDepth 10000 in
theorem u17 : Go B 1 (us 17 rg ar it va ta re be dn op se ye) (us 18 rg ar it (tlT va) ta re be dn op se ye) := Go.one (by show (17 : Nat) ≠ 104; decide) rfl
set_option maxRecDepth 10000 in
theorem u18 : Go B 1 (us 18 rg ar it va ta re be dn op se ye) (us 19 rg (tlT ar) it va ta re be dn op se ye) := Go.one (by show (18 : Nat) ≠ 104; decide) rfl
set_option maxRecDepth 10000 in
theorem u19y (h : ar ≠ .nil) : Go B 1 (us 19 rg ar it va ta re be dn op se ye) (us 17 rg ar it va ta re be dn op se ye) := Go.one (by show (19 : Nat) ≠ 104; decide) ((show stepP univL (us 19 rg ar it va ta re be dn op se ye) = stepI ⟨5, 1, -2, 0, []⟩ (us 19 rg ar it va ta re be dn op se ye) from rfl).trans ((stepI_5 _ rfl).trans (if_neg h)))
set_option maxRecDepth 10000 in
theorem u19n : Go B 1 (us 19 rg .nil it va ta re be dn op se ye) (us 20 rg .nil it va ta re be dn op se ye) := Go.one (by show (19 : Nat) ≠ 104; decide) ((show stepP univL (us 19 rg .nil it va ta re be dn op se ye) = stepI ⟨5, 1, -2, 0, []⟩ (us 19 rg .nil it va ta re be dn op se ye) from rfl).trans ((stepI_5 _ rfl).trans (if_pos rfl)))
set_option maxRecDepth 10000 in
theorem u20 : Go B 1 (us 20 rg ar it va ta re be dn op se ye) (us 21 rg ar it (hdT va) ta re be dn op se ye) := Go.one (by show (20 : Nat) ≠ 104; decide) rfl
set_option maxRecDepth 10000 in
theorem u21y (h : ye ≠ .nil) : Go B 1 (us 21 rg ar it va ta re be dn op se ye) (us 86 rg ar it va ta re be dn op se ye) := Go.one (by show (21 : Nat) ≠ 104; decide) ((show stepP univL (us 21 rg ar it va ta re be dn op se ye) = stepI ⟨5, 10, 65, 0, []⟩ (us 21 rg ar it va ta re be dn op se ye) from rfl).trans ((stepI_5 _ rfl).trans (if_neg h)))
set_option maxRecDepth 10000 in
theorem u21n : Go B 1 (us 21 rg ar it va ta re be dn op se .nil) (us 22 rg ar it va ta re be dn op se .nil) := Go.one (by show (21 : Nat) ≠ 104; decide) ((show stepP univL (us 21 rg ar it va ta re be dn op se .nil) = stepI ⟨5, 10, 65, 0, []⟩ (us 21 rg ar it va ta re be dn op se .nil) from rfl).trans ((stepI_5 _ rfl).trans (if_pos rfl)))
set_option maxRecDepth 10000 in
theorem u22 : Go B 1 (us 22 rg ar it va ta re be dn op se ye) (us 23 rg ar it va ta re be dn (tlT op) se ye) := Go.one (by show (22 : Nat) ≠ 104; decide) rfl
set_option maxRecDepth 10000 in
theorem u23y (h : op ≠ .nil) : Go B 1 (us 23 rg ar it va ta re be dn op se ye) (us 40 rg ar it va ta re be dn op se ye) := Go.one (by show (23 : Nat) ≠ 104; decide) ((show stepP univL (us 23 rg ar it va ta re be dn op se ye) = stepI ⟨5, 8, 17, 0, []⟩ (us 23 rg ar it va ta re be dn op se ye) from rfl).trans ((stepI_5 _ rfl).trans (if_neg h)))
set_option maxRecDepth 10000 in
theorem u23n : Go B 1 (us 23 rg ar it va ta re be dn .nil se ye) (us 24 rg ar it va ta re be dn .nil se ye) := Go.one (by show (23 : Nat) ≠ 104; decide) ((show stepP univL (us 23 rg ar it va ta re be dn .nil se ye) = stepI ⟨5, 8, 17, 0, []⟩ (us 23 rg ar it va ta re be dn .nil se ye) from rfl).trans ((stepI_5 _ rfl).trans (if_pos rfl)))
set_option maxRecDepth 10000 in
theorem u24 : Go B 1 (us 24 rg ar it va ta re be dn op se ye) (us 25 rg ar it va ta re be dn op (hdT ar) ye) := Go.one (by show (24 : Nat) ≠ 104; decide) rfl
set_option maxRecDepth 10000 in
theorem u25 : Go B 1 (us 25 rg ar it va ta re be dn op se ye) (us 26 rg ar it rg ta re be dn op se ye) := Go.one (by show (25 : Nat) ≠ 104; decide) rfl
set_option maxRecDepth 10000 in
theorem u26y (h : ye ≠ .nil) : Go B 1 (us 26 rg ar it va ta re be dn op se ye) (us 29 rg ar it va ta re be dn op se ye) := Go.one (by show (26 : Nat) ≠ 104; decide) ((show stepP univL (us 26 rg ar it va ta re be dn op se ye) = stepI ⟨5, 10, 3, 0, []⟩ (us 26 rg ar it va ta re be dn op se ye) from rfl).trans ((stepI_5 _ rfl).trans (if_neg h)))
set_option maxRecDepth 10000 in
theorem u26n : Go B 1 (us 26 rg ar it va ta re be dn op se .nil) (us 27 rg ar it va ta re be dn op se .nil) := Go.one (by show (26 : Nat) ≠ 104; decide) ((show stepP univL (us 26 rg ar it va ta re be dn op se .nil) = stepI ⟨5, 10, 3, 0, []⟩ (us 26 rg ar it va ta re be dn op se .nil) from rfl).trans ((stepI_5 _ rfl).trans (if_pos rfl)))
set_option maxRecDepth 10000 in
theorem u27 : Go B 1 (us 27 rg ar it va ta re be dn op se ye) (us 28 rg ar it (tlT va) ta re be dn op se ye) := Go.one (by show (27 : Nat) ≠ 104; decide) rfl
set_option maxRecDepth 10000 in
theorem u28 : Go B 1 (us 28 rg ar it va ta re be dn op se ye) (us 29 rg ar it va ta re be dn op (tlT se) ye) := Go.one (by show (28 : Nat) ≠ 104; decide) rfl
set_option maxRecDepth 10000 in
theorem u29y (h : se ≠ .nil) : Go B 1 (us 29 rg ar it va ta re be dn op se ye) (us 27 rg ar it va ta re be dn op se ye) := Go.one (by show (29 : Nat) ≠ 104; decide) ((show stepP univL (us 29 rg ar it va ta re be dn op se ye) = stepI ⟨5, 9, -2, 0, []⟩ (us 29 rg ar it va ta re be dn op se ye) from rfl).trans ((stepI_5 _ rfl).trans (if_neg h)))
set_option maxRecDepth 10000 in
theorem u29n : Go B 1 (us 29 rg ar it va ta re be dn op .nil ye) (us 30 rg ar it va ta re be dn op .nil ye) := Go.one (by show (29 : Nat) ≠ 104; decide) ((show stepP univL (us 29 rg ar it va ta re be dn op .nil ye) = stepI ⟨5, 9, -2, 0, []⟩ (us 29 rg ar it va ta re be dn op .nil ye) from rfl).trans ((stepI_5 _ rfl).trans (if_pos rfl)))
set_option maxRecDepth 10000 in
theorem u30 : Go B 1 (us 30 rg ar it va ta re be dn op se ye) (us 31 rg ar it (hdT va) ta re be dn op se ye) := Go.one (by show (30 : Nat) ≠ 104; decide) rfl
set_option maxRecDepth 10000 in
theorem u31 : Go B 1 (us 31 rg ar it va ta re be dn op se ye) (us 32 rg (tlT ar) it va ta re be dn op se ye) := Go.one (by show (31 : Nat) ≠ 104; decide) rfl
set_option maxRecDepth 10000 in
theorem u32 : Go B 1 (us 32 rg ar it va ta re be dn op se ye) (us 33 rg ar it va ta re be dn op rg ye) := Go.one (by show (32 : Nat) ≠ 104; decide) rfl
set_option maxRecDepth 10000 in
theorem u33y (h : ye ≠ .nil) : Go B 1 (us 33 rg ar it va ta re be dn op se ye) (us 36 rg ar it va ta re be dn op se ye) := Go.one (by show (33 : Nat) ≠ 104; decide) ((show stepP univL (us 33 rg ar it va ta re be dn op se ye) = stepI ⟨5, 10, 3, 0, []⟩ (us 33 rg ar it va ta re be dn op se ye) from rfl).trans ((stepI_5 _ rfl).trans (if_neg h)))
set_option maxRecDepth 10000 in
theorem u33n : Go B 1 (us 33 rg ar it va ta re be dn op se .nil) (us 34 rg ar it va ta re be dn op se .nil) := Go.one (by show (33 : Nat) ≠ 104; decide) ((show stepP univL (us 33 rg ar it va ta re be dn op se .nil) = stepI ⟨5, 10, 3, 0, []⟩ (us 33 rg ar it va ta re be dn op se .nil) from rfl).trans ((stepI_5 _ rfl).trans (if_pos rfl)))
set_option maxRecDepth 10000 in
theorem u34 : Go B 1 (us 34 rg ar it va ta re be dn op se ye) (us 35 rg ar it va ta re be dn op (tlT se) ye) := Go.one (by show (34 : Nat) ≠ 104; decide) rfl
set_option maxRecDepth 10000 in
theorem u35 : Go B 1 (us 35 rg ar it va ta re be dn op se ye) (us 36 rg (tlT ar) it va ta re be dn op se ye) := Go.one (by show (35 : Nat) ≠ 104; decide) rfl
set_option maxRecDepth 10000 in
theorem u36y (h : ar ≠ .nil) : Go B 1 (us 36 rg ar it va ta re be dn op se ye) (us 34 rg ar it va ta re be dn op se ye) := Go.one (by show (36 : Nat) ≠ 104; decide) ((show stepP univL (us 36 rg ar it va ta re be dn op se ye) = stepI ⟨5, 1, -2, 0, []⟩ (us 36 rg ar it va ta re be dn op se ye) from rfl).trans ((stepI_5 _ rfl).trans (if_neg h)))
set_option maxRecDepth 10000 in
theorem u36n : Go B 1 (us 36 rg .nil it va ta re be dn op se ye) (us 37 rg .nil it va ta re be dn op se ye) := Go.one (by show (36 : Nat) ≠ 104; decide) ((show stepP univL (us 36 rg .nil it va ta re be dn op se ye) = stepI ⟨5, 1, -2, 0, []⟩ (us 36 rg .nil it va ta re be dn op se ye) from rfl).trans ((stepI_5 _ rfl).trans (if_pos rfl)))
set_option maxRecDepth 10000 in
theorem u37 : Go B 1 (us 37 rg ar it va ta re be dn op se ye) (us 38 rg ar it va ta re be dn op (hdT se) ye) := Go.one (by show (37 : Nat) ≠ 104; decide) rfl
set_option maxRecDepth 10000 in
theorem u38 (h : ¬ B → (tx (.pair va se)).length ≤ 2000000) : Go B 1 (us 38 rg ar it va ta re be dn op se ye) (us 39 rg ar it (.pair va se) ta re be dn op se ye) := Go.cons (z := .pair va se) (by show (38 : Nat) ≠ 104; decide) rfl h
set_option maxRecDepth 10000 in
theorem u39y (h : ye ≠ .nil) : Go B 1 (us 39 rg ar it va ta re be dn op se ye) (us 86 rg ar it va ta re be dn op se ye) := Go.one (by show (39 : Nat) ≠ 104; decide) ((show stepP univL (us 39 rg ar it va ta re be dn op se ye) = stepI ⟨5, 10, 47, 0, []⟩ (us 39 rg ar it va ta re be dn op se ye) from rfl).trans ((stepI_5 _ rfl).trans (if_neg h)))
set_option maxRecDepth 10000 in
theorem u39n : Go B 1 (us 39 rg ar it va ta re be dn op se .nil) (us 40 rg ar it va ta re be dn op se .nil) := Go.one (by show (39 : Nat) ≠ 104; decide) ((show stepP univL (us 39 rg ar it va ta re be dn op se .nil) = stepI ⟨5, 10, 47, 0, []⟩ (us 39 rg ar it va ta re be dn op se .nil) from rfl).trans ((stepI_5 _ rfl).trans (if_pos rfl)))
set_option maxRecDepth 10000 in
theorem u40 : Go B 1 (us 40 rg ar it va ta re be dn op se ye) (us 41 rg ar it va ta re be dn (tlT op) se ye) := Go.one (by show (40 : Nat) ≠ 104; decide) rfl
set_option maxRecDepth 10000 in
theorem u41y (h : op ≠ .nil) : Go B 1 (us 41 rg ar it va ta re be dn op se ye) (us 50 rg ar it va ta re be dn op se ye) := Go.one (by show (41 : Nat) ≠ 104; decide) ((show stepP univL (us 41 rg ar it va ta re be dn op se ye) = stepI ⟨5, 8, 9, 0, []⟩ (us 41 rg ar it va ta re be dn op se ye) from rfl).trans ((stepI_5 _ rfl).trans (if_neg h)))
set_option maxRecDepth 10000 in
theorem u41n : Go B 1 (us 41 rg ar it va ta re be dn .nil se ye) (us 42 rg ar it va ta re be dn .nil se ye) := Go.one (by show (41 : Nat) ≠ 104; decide) ((show stepP univL (us 41 rg ar it va ta re be dn .nil se ye) = stepI ⟨5, 8, 9, 0, []⟩ (us 41 rg ar it va ta re be dn .nil se ye) from rfl).trans ((stepI_5 _ rfl).trans (if_pos rfl)))
set_option maxRecDepth 10000 in
theorem u42 : Go B 1 (us 42 rg ar it va ta re be dn op se ye) (us 43 rg ar it rg ta re be dn op se ye) := Go.one (by show (42 : Nat) ≠ 104; decide) rfl
set_option maxRecDepth 10000 in
theorem u43y (h : ye ≠ .nil) : Go B 1 (us 43 rg ar it va ta re be dn op se ye) (us 46 rg ar it va ta re be dn op se ye) := Go.one (by show (43 : Nat) ≠ 104; decide) ((show stepP univL (us 43 rg ar it va ta re be dn op se ye) = stepI ⟨5, 10, 3, 0, []⟩ (us 43 rg ar it va ta re be dn op se ye) from rfl).trans ((stepI_5 _ rfl).trans (if_neg h)))
set_option maxRecDepth 10000 in
theorem u43n : Go B 1 (us 43 rg ar it va ta re be dn op se .nil) (us 44 rg ar it va ta re be dn op se .nil) := Go.one (by show (43 : Nat) ≠ 104; decide) ((show stepP univL (us 43 rg ar it va ta re be dn op se .nil) = stepI ⟨5, 10, 3, 0, []⟩ (us 43 rg ar it va ta re be dn op se .nil) from rfl).trans ((stepI_5 _ rfl).trans (if_pos rfl)))
set_option maxRecDepth 10000 in
theorem u44 : Go B 1 (us 44 rg ar it va ta re be dn op se ye) (us 45 rg ar it (tlT va) ta re be dn op se ye) := Go.one (by show (44 : Nat) ≠ 104; decide) rfl
set_option maxRecDepth 10000 in
theorem u45 : Go B 1 (us 45 rg ar it va ta re be dn op se ye) (us 46 rg (tlT ar) it va ta re be dn op se ye) := Go.one (by show (45 : Nat) ≠ 104; decide) rfl
set_option maxRecDepth 10000 in
theorem u46y (h : ar ≠ .nil) : Go B 1 (us 46 rg ar it va ta re be dn op se ye) (us 44 rg ar it va ta re be dn op se ye) := Go.one (by show (46 : Nat) ≠ 104; decide) ((show stepP univL (us 46 rg ar it va ta re be dn op se ye) = stepI ⟨5, 1, -2, 0, []⟩ (us 46 rg ar it va ta re be dn op se ye) from rfl).trans ((stepI_5 _ rfl).trans (if_neg h)))
set_option maxRecDepth 10000 in
theorem u46n : Go B 1 (us 46 rg .nil it va ta re be dn op se ye) (us 47 rg .nil it va ta re be dn op se ye) := Go.one (by show (46 : Nat) ≠ 104; decide) ((show stepP univL (us 46 rg .nil it va ta re be dn op se ye) = stepI ⟨5, 1, -2, 0, []⟩ (us 46 rg .nil it va ta re be dn op se ye) from rfl).trans ((stepI_5 _ rfl).trans (if_pos rfl)))
set_option maxRecDepth 10000 in
theorem u47 : Go B 1 (us 47 rg ar it va ta re be dn op se ye) (us 48 rg ar it (hdT va) ta re be dn op se ye) := Go.one (by show (47 : Nat) ≠ 104; decide) rfl
set_option maxRecDepth 10000 in
theorem u48 : Go B 1 (us 48 rg ar it va ta re be dn op se ye) (us 49 rg ar it (hdT va) ta re be dn op se ye) := Go.one (by show (48 : Nat) ≠ 104; decide) rfl
set_option maxRecDepth 10000 in
theorem u49y (h : ye ≠ .nil) : Go B 1 (us 49 rg ar it va ta re be dn op se ye) (us 86 rg ar it va ta re be dn op se ye) := Go.one (by show (49 : Nat) ≠ 104; decide) ((show stepP univL (us 49 rg ar it va ta re be dn op se ye) = stepI ⟨5, 10, 37, 0, []⟩ (us 49 rg ar it va ta re be dn op se ye) from rfl).trans ((stepI_5 _ rfl).trans (if_neg h)))
set_option maxRecDepth 10000 in
theorem u49n : Go B 1 (us 49 rg ar it va ta re be dn op se .nil) (us 50 rg ar it va ta re be dn op se .nil) := Go.one (by show (49 : Nat) ≠ 104; decide) ((show stepP univL (us 49 rg ar it va ta re be dn op se .nil) = stepI ⟨5, 10, 37, 0, []⟩ (us 49 rg ar it va ta re be dn op se .nil) from rfl).trans ((stepI_5 _ rfl).trans (if_pos rfl)))
set_option maxRecDepth 10000 in
theorem u50 : Go B 1 (us 50 rg ar it va ta re be dn op se ye) (us 51 rg ar it va ta re be dn (tlT op) se ye) := Go.one (by show (50 : Nat) ≠ 104; decide) rfl
set_option maxRecDepth 10000 in
theorem u51y (h : op ≠ .nil) : Go B 1 (us 51 rg ar it va ta re be dn op se ye) (us 60 rg ar it va ta re be dn op se ye) := Go.one (by show (51 : Nat) ≠ 104; decide) ((show stepP univL (us 51 rg ar it va ta re be dn op se ye) = stepI ⟨5, 8, 9, 0, []⟩ (us 51 rg ar it va ta re be dn op se ye) from rfl).trans ((stepI_5 _ rfl).trans (if_neg h)))
set_option maxRecDepth 10000 in
theorem u51n : Go B 1 (us 51 rg ar it va ta re be dn .nil se ye) (us 52 rg ar it va ta re be dn .nil se ye) := Go.one (by show (51 : Nat) ≠ 104; decide) ((show stepP univL (us 51 rg ar it va ta re be dn .nil se ye) = stepI ⟨5, 8, 9, 0, []⟩ (us 51 rg ar it va ta re be dn .nil se ye) from rfl).trans ((stepI_5 _ rfl).trans (if_pos rfl)))
set_option maxRecDepth 10000 in
theorem u52 : Go B 1 (us 52 rg ar it va ta re be dn op se ye) (us 53 rg ar it rg ta re be dn op se ye) := Go.one (by show (52 : Nat) ≠ 104; decide) rfl
set_option maxRecDepth 10000 in
theorem u53y (h : ye ≠ .nil) : Go B 1 (us 53 rg ar it va ta re be dn op se ye) (us 56 rg ar it va ta re be dn op se ye) := Go.one (by show (53 : Nat) ≠ 104; decide) ((show stepP univL (us 53 rg ar it va ta re be dn op se ye) = stepI ⟨5, 10, 3, 0, []⟩ (us 53 rg ar it va ta re be dn op se ye) from rfl).trans ((stepI_5 _ rfl).trans (if_neg h)))
set_option maxRecDepth 10000 in
theorem u53n : Go B 1 (us 53 rg ar it va ta re be dn op se .nil) (us 54 rg ar it va ta re be dn op se .nil) := Go.one (by show (53 : Nat) ≠ 104; decide) ((show stepP univL (us 53 rg ar it va ta re be dn op se .nil) = stepI ⟨5, 10, 3, 0, []⟩ (us 53 rg ar it va ta re be dn op se .nil) from rfl).trans ((stepI_5 _ rfl).trans (if_pos rfl)))
set_option maxRecDepth 10000 in
theorem u54 : Go B 1 (us 54 rg ar it va ta re be dn op se ye) (us 55 rg ar it (tlT va) ta re be dn op se ye) := Go.one (by show (54 : Nat) ≠ 104; decide) rfl
set_option maxRecDepth 10000 in
theorem u55 : Go B 1 (us 55 rg ar it va ta re be dn op se ye) (us 56 rg (tlT ar) it va ta re be dn op se ye) := Go.one (by show (55 : Nat) ≠ 104; decide) rfl
set_option maxRecDepth 10000 in
theorem u56y (h : ar ≠ .nil) : Go B 1 (us 56 rg ar it va ta re be dn op se ye) (us 54 rg ar it va ta re be dn op se ye) := Go.one (by show (56 : Nat) ≠ 104; decide) ((show stepP univL (us 56 rg ar it va ta re be dn op se ye) = stepI ⟨5, 1, -2, 0, []⟩ (us 56 rg ar it va ta re be dn op se ye) from rfl).trans ((stepI_5 _ rfl).trans (if_neg h)))
set_option maxRecDepth 10000 in
theorem u56n : Go B 1 (us 56 rg .nil it va ta re be dn op se ye) (us 57 rg .nil it va ta re be dn op se ye) := Go.one (by show (56 : Nat) ≠ 104; decide) ((show stepP univL (us 56 rg .nil it va ta re be dn op se ye) = stepI ⟨5, 1, -2, 0, []⟩ (us 56 rg .nil it va ta re be dn op se ye) from rfl).trans ((stepI_5 _ rfl).trans (if_pos rfl)))
set_option maxRecDepth 10000 in
theorem u57 : Go B 1 (us 57 rg ar it va ta re be dn op se ye) (us 58 rg ar it (hdT va) ta re be dn op se ye) := Go.one (by show (57 : Nat) ≠ 104; decide) rfl
set_option maxRecDepth 10000 in
theorem u58 : Go B 1 (us 58 rg ar it va ta re be dn op se ye) (us 59 rg ar it (tlT va) ta re be dn op se ye) := Go.one (by show (58 : Nat) ≠ 104; decide) rfl
set_option maxRecDepth 10000 in
theorem u59y (h : ye ≠ .nil) : Go B 1 (us 59 rg ar it va ta re be dn op se ye) (us 86 rg ar it va ta re be dn op se ye) := Go.one (by show (59 : Nat) ≠ 104; decide) ((show stepP univL (us 59 rg ar it va ta re be dn op se ye) = stepI ⟨5, 10, 27, 0, []⟩ (us 59 rg ar it va ta re be dn op se ye) from rfl).trans ((stepI_5 _ rfl).trans (if_neg h)))
set_option maxRecDepth 10000 in
theorem u59n : Go B 1 (us 59 rg ar it va ta re be dn op se .nil) (us 60 rg ar it va ta re be dn op se .nil) := Go.one (by show (59 : Nat) ≠ 104; decide) ((show stepP univL (us 59 rg ar it va ta re be dn op se .nil) = stepI ⟨5, 10, 27, 0, []⟩ (us 59 rg ar it va ta re be dn op se .nil) from rfl).trans ((stepI_5 _ rfl).trans (if_pos rfl)))
set_option maxRecDepth 10000 in
theorem u60 : Go B 1 (us 60 rg ar it va ta re be dn op se ye) (us 61 rg ar it va ta re be dn (tlT op) se ye) := Go.one (by show (60 : Nat) ≠ 104; decide) rfl
set_option maxRecDepth 10000 in
theorem u61 : Go B 1 (us 61 rg ar it va ta re be dn op se ye) (us 62 rg ar it rg ta re be dn op se ye) := Go.one (by show (61 : Nat) ≠ 104; decide) rfl
set_option maxRecDepth 10000 in
theorem u62y (h : ye ≠ .nil) : Go B 1 (us 62 rg ar it va ta re be dn op se ye) (us 65 rg ar it va ta re be dn op se ye) := Go.one (by show (62 : Nat) ≠ 104; decide) ((show stepP univL (us 62 rg ar it va ta re be dn op se ye) = stepI ⟨5, 10, 3, 0, []⟩ (us 62 rg ar it va ta re be dn op se ye) from rfl).trans ((stepI_5 _ rfl).trans (if_neg h)))
set_option maxRecDepth 10000 in
theorem u62n : Go B 1 (us 62 rg ar it va ta re be dn op se .nil) (us 63 rg ar it va ta re be dn op se .nil) := Go.one (by show (62 : Nat) ≠ 104; decide) ((show stepP univL (us 62 rg ar it va ta re be dn op se .nil) = stepI ⟨5, 10, 3, 0, []⟩ (us 62 rg ar it va ta re be dn op se .nil) from rfl).trans ((stepI_5 _ rfl).trans (if_pos rfl)))
set_option maxRecDepth 10000 in
theorem u63 : Go B 1 (us 63 rg ar it va ta re be dn op se ye) (us 64 rg ar it (tlT va) ta re be dn op se ye) := Go.one (by show (63 : Nat) ≠ 104; decide) rfl
set_option maxRecDepth 10000 in
theorem u64 : Go B 1 (us 64 rg ar it va ta re be dn op se ye) (us 65 rg ar it va (tlT ta) re be dn op se ye) := Go.one (by show (64 : Nat) ≠ 104; decide) rfl
set_option maxRecDepth 10000 in
theorem u65y (h : ta ≠ .nil) : Go B 1 (us 65 rg ar it va ta re be dn op se ye) (us 63 rg ar it va ta re be dn op se ye) := Go.one (by show (65 : Nat) ≠ 104; decide) ((show stepP univL (us 65 rg ar it va ta re be dn op se ye) = stepI ⟨5, 4, -2, 0, []⟩ (us 65 rg ar it va ta re be dn op se ye) from rfl).trans ((stepI_5 _ rfl).trans (if_neg h)))
set_option maxRecDepth 10000 in
theorem u65n : Go B 1 (us 65 rg ar it va .nil re be dn op se ye) (us 66 rg ar it va .nil re be dn op se ye) := Go.one (by show (65 : Nat) ≠ 104; decide) ((show stepP univL (us 65 rg ar it va .nil re be dn op se ye) = stepI ⟨5, 4, -2, 0, []⟩ (us 65 rg ar it va .nil re be dn op se ye) from rfl).trans ((stepI_5 _ rfl).trans (if_pos rfl)))
set_option maxRecDepth 10000 in
theorem u66 : Go B 1 (us 66 rg ar it va ta re be dn op se ye) (us 67 rg ar it (hdT va) ta re be dn op se ye) := Go.one (by show (66 : Nat) ≠ 104; decide) rfl
set_option maxRecDepth 10000 in
theorem u67y (h : va ≠ .nil) : Go B 1 (us 67 rg ar it va ta re be dn op se ye) (us 69 rg ar it va ta re be dn op se ye) := Go.one (by show (67 : Nat) ≠ 104; decide) ((show stepP univL (us 67 rg ar it va ta re be dn op se ye) = stepI ⟨5, 3, 2, 0, []⟩ (us 67 rg ar it va ta re be dn op se ye) from rfl).trans ((stepI_5 _ rfl).trans (if_neg h)))
set_option maxRecDepth 10000 in
theorem u67n : Go B 1 (us 67 rg ar it .nil ta re be dn op se ye) (us 68 rg ar it .nil ta re be dn op se ye) := Go.one (by show (67 : Nat) ≠ 104; decide) ((show stepP univL (us 67 rg ar it .nil ta re be dn op se ye) = stepI ⟨5, 3, 2, 0, []⟩ (us 67 rg ar it .nil ta re be dn op se ye) from rfl).trans ((stepI_5 _ rfl).trans (if_pos rfl)))
set_option maxRecDepth 10000 in
theorem u68y (h : ye ≠ .nil) : Go B 1 (us 68 rg ar it va ta re be dn op se ye) (us 99 rg ar it va ta re be dn op se ye) := Go.one (by show (68 : Nat) ≠ 104; decide) ((show stepP univL (us 68 rg ar it va ta re be dn op se ye) = stepI ⟨5, 10, 31, 0, []⟩ (us 68 rg ar it va ta re be dn op se ye) from rfl).trans ((stepI_5 _ rfl).trans (if_neg h)))
set_option maxRecDepth 10000 in
theorem u68n : Go B 1 (us 68 rg ar it va ta re be dn op se .nil) (us 69 rg ar it va ta re be dn op se .nil) := Go.one (by show (68 : Nat) ≠ 104; decide) ((show stepP univL (us 68 rg ar it va ta re be dn op se .nil) = stepI ⟨5, 10, 31, 0, []⟩ (us 68 rg ar it va ta re be dn op se .nil) from rfl).trans ((stepI_5 _ rfl).trans (if_pos rfl)))
set_option maxRecDepth 10000 in
theorem u69 : Go B 1 (us 69 rg ar it va ta re be dn op se ye) (us 70 rg ar it (hdT ar) ta re be dn op se ye) := Go.one (by show (69 : Nat) ≠ 104; decide) rfl
set_option maxRecDepth 10000 in
theorem u70 : Go B 1 (us 70 rg ar it va ta re be dn op se ye) (us 71 rg (tlT ar) it va ta re be dn op se ye) := Go.one (by show (70 : Nat) ≠ 104; decide) rfl
set_option maxRecDepth 10000 in
theorem u71y (h : va ≠ .nil) : Go B 1 (us 71 rg ar it va ta re be dn op se ye) (us 79 rg ar it va ta re be dn op se ye) := Go.one (by show (71 : Nat) ≠ 104; decide) ((show stepP univL (us 71 rg ar it va ta re be dn op se ye) = stepI ⟨5, 3, 8, 0, []⟩ (us 71 rg ar it va ta re be dn op se ye) from rfl).trans ((stepI_5 _ rfl).trans (if_neg h)))
set_option maxRecDepth 10000 in
theorem u71n : Go B 1 (us 71 rg ar it .nil ta re be dn op se ye) (us 72 rg ar it .nil ta re be dn op se ye) := Go.one (by show (71 : Nat) ≠ 104; decide) ((show stepP univL (us 71 rg ar it .nil ta re be dn op se ye) = stepI ⟨5, 3, 8, 0, []⟩ (us 71 rg ar it .nil ta re be dn op se ye) from rfl).trans ((stepI_5 _ rfl).trans (if_pos rfl)))
set_option maxRecDepth 10000 in
theorem u72y (h : ye ≠ .nil) : Go B 1 (us 72 rg ar it va ta re be dn op se ye) (us 77 rg ar it va ta re be dn op se ye) := Go.one (by show (72 : Nat) ≠ 104; decide) ((show stepP univL (us 72 rg ar it va ta re be dn op se ye) = stepI ⟨5, 10, 5, 0, []⟩ (us 72 rg ar it va ta re be dn op se ye) from rfl).trans ((stepI_5 _ rfl).trans (if_neg h)))
set_option maxRecDepth 10000 in
theorem u72n : Go B 1 (us 72 rg ar it va ta re be dn op se .nil) (us 73 rg ar it va ta re be dn op se .nil) := Go.one (by show (72 : Nat) ≠ 104; decide) ((show stepP univL (us 72 rg ar it va ta re be dn op se .nil) = stepI ⟨5, 10, 5, 0, []⟩ (us 72 rg ar it va ta re be dn op se .nil) from rfl).trans ((stepI_5 _ rfl).trans (if_pos rfl)))
set_option maxRecDepth 10000 in
theorem u73 : Go B 1 (us 73 rg ar it va ta re be dn op se ye) (us 74 rg (tlT ar) it va ta re be dn op se ye) := Go.one (by show (73 : Nat) ≠ 104; decide) rfl
set_option maxRecDepth 10000 in
theorem u74 : Go B 1 (us 74 rg ar it va ta re be dn op se ye) (us 75 rg ar (hdT re) va ta re be dn op se ye) := Go.one (by show (74 : Nat) ≠ 104; decide) rfl
set_option maxRecDepth 10000 in
theorem u75 (h : ¬ B → (tx (.pair it dn)).length ≤ 2000000) : Go B 1 (us 75 rg ar it va ta re be dn op se ye) (us 76 rg ar it va ta re be (.pair it dn) op se ye) := Go.cons (z := .pair it dn) (by show (75 : Nat) ≠ 104; decide) rfl h
set_option maxRecDepth 10000 in
theorem u76 : Go B 1 (us 76 rg ar it va ta re be dn op se ye) (us 77 rg ar it va ta (tlT re) be dn op se ye) := Go.one (by show (76 : Nat) ≠ 104; decide) rfl
set_option maxRecDepth 10000 in
theorem u77y (h : ar ≠ .nil) : Go B 1 (us 77 rg ar it va ta re be dn op se ye) (us 73 rg ar it va ta re be dn op se ye) := Go.one (by show (77 : Nat) ≠ 104; decide) ((show stepP univL (us 77 rg ar it va ta re be dn op se ye) = stepI ⟨5, 1, -4, 0, []⟩ (us 77 rg ar it va ta re be dn op se ye) from rfl).trans ((stepI_5 _ rfl).trans (if_neg h)))
set_option maxRecDepth 10000 in
theorem u77n : Go B 1 (us 77 rg .nil it va ta re be dn op se ye) (us 78 rg .nil it va ta re be dn op se ye) := Go.one (by show (77 : Nat) ≠ 104; decide) ((show stepP univL (us 77 rg .nil it va ta re be dn op se ye) = stepI ⟨5, 1, -4, 0, []⟩ (us 77 rg .nil it va ta re be dn op se ye) from rfl).trans ((stepI_5 _ rfl).trans (if_pos rfl)))
set_option maxRecDepth 10000 in
theorem u78y (h : ye ≠ .nil) : Go B 1 (us 78 rg ar it va ta re be dn op se ye) (us 102 rg ar it va ta re be dn op se ye) := Go.one (by show (78 : Nat) ≠ 104; decide) ((show stepP univL (us 78 rg ar it va ta re be dn op se ye) = stepI ⟨5, 10, 24, 0, []⟩ (us 78 rg ar it va ta re be dn op se ye) from rfl).trans ((stepI_5 _ rfl).trans (if_neg h)))
set_option maxRecDepth 10000 in
theorem u78n : Go B 1 (us 78 rg ar it va ta re be dn op se .nil) (us 79 rg ar it va ta re be dn op se .nil) := Go.one (by show (78 : Nat) ≠ 104; decide) ((show stepP univL (us 78 rg ar it va ta re be dn op se .nil) = stepI ⟨5, 10, 24, 0, []⟩ (us 78 rg ar it va ta re be dn op se .nil) from rfl).trans ((stepI_5 _ rfl).trans (if_pos rfl)))
set_option maxRecDepth 10000 in
theorem u79y (h : ye ≠ .nil) : Go B 1 (us 79 rg ar it va ta re be dn op se ye) (us 84 rg ar it va ta re be dn op se ye) := Go.one (by show (79 : Nat) ≠ 104; decide) ((show stepP univL (us 79 rg ar it va ta re be dn op se ye) = stepI ⟨5, 10, 5, 0, []⟩ (us 79 rg ar it va ta re be dn op se ye) from rfl).trans ((stepI_5 _ rfl).trans (if_neg h)))
set_option maxRecDepth 10000 in
theorem u79n : Go B 1 (us 79 rg ar it va ta re be dn op se .nil) (us 80 rg ar it va ta re be dn op se .nil) := Go.one (by show (79 : Nat) ≠ 104; decide) ((show stepP univL (us 79 rg ar it va ta re be dn op se .nil) = stepI ⟨5, 10, 5, 0, []⟩ (us 79 rg ar it va ta re be dn op se .nil) from rfl).trans ((stepI_5 _ rfl).trans (if_pos rfl)))
set_option maxRecDepth 10000 in
theorem u80 : Go B 1 (us 80 rg ar it va ta re be dn op se ye) (us 81 rg (tlT ar) it va ta re be dn op se ye) := Go.one (by show (80 : Nat) ≠ 104; decide) rfl
set_option maxRecDepth 10000 in
theorem u81 : Go B 1 (us 81 rg ar it va ta re be dn op se ye) (us 82 rg ar (hdT dn) va ta re be dn op se ye) := Go.one (by show (81 : Nat) ≠ 104; decide) rfl
set_option maxRecDepth 10000 in
theorem u82 (h : ¬ B → (tx (.pair it re)).length ≤ 2000000) : Go B 1 (us 82 rg ar it va ta re be dn op se ye) (us 83 rg ar it va ta (.pair it re) be dn op se ye) := Go.cons (z := .pair it re) (by show (82 : Nat) ≠ 104; decide) rfl h
set_option maxRecDepth 10000 in
theorem u83 : Go B 1 (us 83 rg ar it va ta re be dn op se ye) (us 84 rg ar it va ta re be (tlT dn) op se ye) := Go.one (by show (83 : Nat) ≠ 104; decide) rfl
set_option maxRecDepth 10000 in
theorem u84y (h : ar ≠ .nil) : Go B 1 (us 84 rg ar it va ta re be dn op se ye) (us 80 rg ar it va ta re be dn op se ye) := Go.one (by show (84 : Nat) ≠ 104; decide) ((show stepP univL (us 84 rg ar it va ta re be dn op se ye) = stepI ⟨5, 1, -4, 0, []⟩ (us 84 rg ar it va ta re be dn op se ye) from rfl).trans ((stepI_5 _ rfl).trans (if_neg h)))
set_option maxRecDepth 10000 in
theorem u84n : Go B 1 (us 84 rg .nil it va ta re be dn op se ye) (us 85 rg .nil it va ta re be dn op se ye) := Go.one (by show (84 : Nat) ≠ 104; decide) ((show stepP univL (us 84 rg .nil it va ta re be dn op se ye) = stepI ⟨5, 1, -4, 0, []⟩ (us 84 rg .nil it va ta re be dn op se ye) from rfl).trans ((stepI_5 _ rfl).trans (if_pos rfl)))
set_option maxRecDepth 10000 in
theorem u85y (h : ye ≠ .nil) : Go B 1 (us 85 rg ar it va ta re be dn op se ye) (us 102 rg ar it va ta re be dn op se ye) := Go.one (by show (85 : Nat) ≠ 104; decide) ((show stepP univL (us 85 rg ar it va ta re be dn op se ye) = stepI ⟨5, 10, 17, 0, []⟩ (us 85 rg ar it va ta re be dn op se ye) from rfl).trans ((stepI_5 _ rfl).trans (if_neg h)))
set_option maxRecDepth 10000 in
theorem u85n : Go B 1 (us 85 rg ar it va ta re be dn op se .nil) (us 86 rg ar it va ta re be dn op se .nil) := Go.one (by show (85 : Nat) ≠ 104; decide) ((show stepP univL (us 85 rg ar it va ta re be dn op se .nil) = stepI ⟨5, 10, 17, 0, []⟩ (us 85 rg ar it va ta re be dn op se .nil) from rfl).trans ((stepI_5 _ rfl).trans (if_pos rfl)))
set_option maxRecDepth 10000 in
theorem u86y (h : ye ≠ .nil) : Go B 1 (us 86 rg ar it va ta re be dn op se ye) (us 91 rg ar it va ta re be dn op se ye) := Go.one (by show (86 : Nat) ≠ 104; decide) ((show stepP univL (us 86 rg ar it va ta re be dn op se ye) = stepI ⟨5, 10, 5, 0, []⟩ (us 86 rg ar it va ta re be dn op se ye) from rfl).trans ((stepI_5 _ rfl).trans (if_neg h)))
set_option maxRecDepth 10000 in
theorem u86n : Go B 1 (us 86 rg ar it va ta re be dn op se .nil) (us 87 rg ar it va ta re be dn op se .nil) := Go.one (by show (86 : Nat) ≠ 104; decide) ((show stepP univL (us 86 rg ar it va ta re be dn op se .nil) = stepI ⟨5, 10, 5, 0, []⟩ (us 86 rg ar it va ta re be dn op se .nil) from rfl).trans ((stepI_5 _ rfl).trans (if_pos rfl)))
set_option maxRecDepth 10000 in
theorem u87 : Go B 1 (us 87 rg ar it va ta re be dn op se ye) (us 88 rg ar it va (tlT ta) re be dn op se ye) := Go.one (by show (87 : Nat) ≠ 104; decide) rfl
set_option maxRecDepth 10000 in
theorem u88 : Go B 1 (us 88 rg ar it va ta re be dn op se ye) (us 89 rg ar (hdT rg) va ta re be dn op se ye) := Go.one (by show (88 : Nat) ≠ 104; decide) rfl
set_option maxRecDepth 10000 in
theorem u89 (h : ¬ B → (tx (.pair it be)).length ≤ 2000000) : Go B 1 (us 89 rg ar it va ta re be dn op se ye) (us 90 rg ar it va ta re (.pair it be) dn op se ye) := Go.cons (z := .pair it be) (by show (89 : Nat) ≠ 104; decide) rfl h
set_option maxRecDepth 10000 in
theorem u90 : Go B 1 (us 90 rg ar it va ta re be dn op se ye) (us 91 (tlT rg) ar it va ta re be dn op se ye) := Go.one (by show (90 : Nat) ≠ 104; decide) rfl
set_option maxRecDepth 10000 in
theorem u91y (h : ta ≠ .nil) : Go B 1 (us 91 rg ar it va ta re be dn op se ye) (us 87 rg ar it va ta re be dn op se ye) := Go.one (by show (91 : Nat) ≠ 104; decide) ((show stepP univL (us 91 rg ar it va ta re be dn op se ye) = stepI ⟨5, 4, -4, 0, []⟩ (us 91 rg ar it va ta re be dn op se ye) from rfl).trans ((stepI_5 _ rfl).trans (if_neg h)))
set_option maxRecDepth 10000 in
theorem u91n : Go B 1 (us 91 rg ar it va .nil re be dn op se ye) (us 92 rg ar it va .nil re be dn op se ye) := Go.one (by show (91 : Nat) ≠ 104; decide) ((show stepP univL (us 91 rg ar it va .nil re be dn op se ye) = stepI ⟨5, 4, -4, 0, []⟩ (us 91 rg ar it va .nil re be dn op se ye) from rfl).trans ((stepI_5 _ rfl).trans (if_pos rfl)))
set_option maxRecDepth 10000 in
theorem u92 : Go B 1 (us 92 rg ar it va ta re be dn op se ye) (us 93 (tlT rg) ar it va ta re be dn op se ye) := Go.one (by show (92 : Nat) ≠ 104; decide) rfl
set_option maxRecDepth 10000 in
theorem u93 (h : ¬ B → (tx (.pair va rg)).length ≤ 2000000) : Go B 1 (us 93 rg ar it va ta re be dn op se ye) (us 94 (.pair va rg) ar it va ta re be dn op se ye) := Go.cons (z := .pair va rg) (by show (93 : Nat) ≠ 104; decide) rfl h
set_option maxRecDepth 10000 in
theorem u94y (h : ye ≠ .nil) : Go B 1 (us 94 rg ar it va ta re be dn op se ye) (us 98 rg ar it va ta re be dn op se ye) := Go.one (by show (94 : Nat) ≠ 104; decide) ((show stepP univL (us 94 rg ar it va ta re be dn op se ye) = stepI ⟨5, 10, 4, 0, []⟩ (us 94 rg ar it va ta re be dn op se ye) from rfl).trans ((stepI_5 _ rfl).trans (if_neg h)))
set_option maxRecDepth 10000 in
theorem u94n : Go B 1 (us 94 rg ar it va ta re be dn op se .nil) (us 95 rg ar it va ta re be dn op se .nil) := Go.one (by show (94 : Nat) ≠ 104; decide) ((show stepP univL (us 94 rg ar it va ta re be dn op se .nil) = stepI ⟨5, 10, 4, 0, []⟩ (us 94 rg ar it va ta re be dn op se .nil) from rfl).trans ((stepI_5 _ rfl).trans (if_pos rfl)))
set_option maxRecDepth 10000 in
theorem u95 : Go B 1 (us 95 rg ar it va ta re be dn op se ye) (us 96 rg ar (hdT be) va ta re be dn op se ye) := Go.one (by show (95 : Nat) ≠ 104; decide) rfl
set_option maxRecDepth 10000 in
theorem u96 (h : ¬ B → (tx (.pair it rg)).length ≤ 2000000) : Go B 1 (us 96 rg ar it va ta re be dn op se ye) (us 97 (.pair it rg) ar it va ta re be dn op se ye) := Go.cons (z := .pair it rg) (by show (96 : Nat) ≠ 104; decide) rfl h
set_option maxRecDepth 10000 in
theorem u97 : Go B 1 (us 97 rg ar it va ta re be dn op se ye) (us 98 rg ar it va ta re (tlT be) dn op se ye) := Go.one (by show (97 : Nat) ≠ 104; decide) rfl
set_option maxRecDepth 10000 in
theorem u98y (h : be ≠ .nil) : Go B 1 (us 98 rg ar it va ta re be dn op se ye) (us 95 rg ar it va ta re be dn op se ye) := Go.one (by show (98 : Nat) ≠ 104; decide) ((show stepP univL (us 98 rg ar it va ta re be dn op se ye) = stepI ⟨5, 6, -3, 0, []⟩ (us 98 rg ar it va ta re be dn op se ye) from rfl).trans ((stepI_5 _ rfl).trans (if_neg h)))
set_option maxRecDepth 10000 in
theorem u98n : Go B 1 (us 98 rg ar it va ta re .nil dn op se ye) (us 99 rg ar it va ta re .nil dn op se ye) := Go.one (by show (98 : Nat) ≠ 104; decide) ((show stepP univL (us 98 rg ar it va ta re .nil dn op se ye) = stepI ⟨5, 6, -3, 0, []⟩ (us 98 rg ar it va ta re .nil dn op se ye) from rfl).trans ((stepI_5 _ rfl).trans (if_pos rfl)))
set_option maxRecDepth 10000 in
theorem u99 : Go B 1 (us 99 rg ar it va ta re be dn op se ye) (us 100 rg ar (hdT re) va ta re be dn op se ye) := Go.one (by show (99 : Nat) ≠ 104; decide) rfl
set_option maxRecDepth 10000 in
theorem u100 (h : ¬ B → (tx (.pair it dn)).length ≤ 2000000) : Go B 1 (us 100 rg ar it va ta re be dn op se ye) (us 101 rg ar it va ta re be (.pair it dn) op se ye) := Go.cons (z := .pair it dn) (by show (100 : Nat) ≠ 104; decide) rfl h
set_option maxRecDepth 10000 in
theorem u101 : Go B 1 (us 101 rg ar it va ta re be dn op se ye) (us 102 rg ar it va ta (tlT re) be dn op se ye) := Go.one (by show (101 : Nat) ≠ 104; decide) rfl
set_option maxRecDepth 10000 in
theorem u102y (h : re ≠ .nil) : Go B 1 (us 102 rg ar it va ta re be dn op se ye) (us 5 rg ar it va ta re be dn op se ye) := Go.one (by show (102 : Nat) ≠ 104; decide) ((show stepP univL (us 102 rg ar it va ta re be dn op se ye) = stepI ⟨5, 5, -97, 0, []⟩ (us 102 rg ar it va ta re be dn op se ye) from rfl).trans ((stepI_5 _ rfl).trans (if_neg h)))
set_option maxRecDepth 10000 in
theorem u102n : Go B 1 (us 102 rg ar it va ta .nil be dn op se ye) (us 103 rg ar it va ta .nil be dn op se ye) := Go.one (by show (102 : Nat) ≠ 104; decide) ((show stepP univL (us 102 rg ar it va ta .nil be dn op se ye) = stepI ⟨5, 5, -97, 0, []⟩ (us 102 rg ar it va ta .nil be dn op se ye) from rfl).trans ((stepI_5 _ rfl).trans (if_pos rfl)))
set_option maxRecDepth 10000 in
theorem u103 : Go B 1 (us 103 rg ar it va ta re be dn op se ye) (us 104 (hdT rg) ar it va ta re be dn op se ye) := Go.one (by show (103 : Nat) ≠ 104; decide) rfl
end
/-- a number, a list, as trees -/
def numT : Nat → Tr | 0 => .nil | n + 1 => .pair .nil (numT n)
def lst : List Tr → Tr | [] => .nil | a :: l => .pair a (lst l)
def tlN : Nat → Tr → Tr | 0, v => v | n + 1, v => tlN n (tlT v)
theorem hd_tlN : ∀ (k : Nat) (l : List Tr), hdT (tlN k (lst l)) = l.getD k .nil
  | 0, [] => rfl
  | 0, a :: l => rfl
  | k + 1, [] => by
    show hdT (tlN k (lst [])) = _
    rw [hd_tlN k []]; simp
  | k + 1, a :: l => by
    show hdT (tlN k (lst l)) = _
    rw [hd_tlN k l]; simp
theorem numT_ne (n : Nat) : numT (n + 1) ≠ .nil := fun h => Tr.noConfusion h
section
variable {B : Prop} {rg ar it va ta re be dn op se ye : Tr}
theorem loop17 : ∀ (n : Nat) {va : Tr}, Go B (3 * n + 1) (us 19 rg (numT n) it va ta re be dn op se ye) (us 20 rg .nil it (tlN n va) ta re be dn op se ye)
  | 0, _ => u19n
  | n + 1, _ => Go.cast ((u19y (numT_ne n)).trans (u17.trans (u18.trans (loop17 n)))) (by omega)
theorem loop27 : ∀ (n : Nat) {va : Tr}, Go B (3 * n + 1) (us 29 rg ar it va ta re be dn op (numT n) ye) (us 30 rg ar it (tlN n va) ta re be dn op .nil ye)
  | 0, _ => u29n
  | n + 1, _ => Go.cast ((u29y (numT_ne n)).trans (u27.trans (u28.trans (loop27 n)))) (by omega)
theorem loop34 : ∀ (n : Nat) {se : Tr}, Go B (3 * n + 1) (us 36 rg (numT n) it va ta re be dn op se ye) (us 37 rg .nil it va ta re be dn op (tlN n se) ye)
  | 0, _ => u36n
  | n + 1, _ => Go.cast ((u36y (numT_ne n)).trans (u34.trans (u35.trans (loop34 n)))) (by omega)
theorem loop44 : ∀ (n : Nat) {va : Tr}, Go B (3 * n + 1) (us 46 rg (numT n) it va ta re be dn op se ye) (us 47 rg .nil it (tlN n va) ta re be dn op se ye)
  | 0, _ => u46n
  | n + 1, _ => Go.cast ((u46y (numT_ne n)).trans (u44.trans (u45.trans (loop44 n)))) (by omega)
theorem loop54 : ∀ (n : Nat) {va : Tr}, Go B (3 * n + 1) (us 56 rg (numT n) it va ta re be dn op se ye) (us 57 rg .nil it (tlN n va) ta re be dn op se ye)
  | 0, _ => u56n
  | n + 1, _ => Go.cast ((u56y (numT_ne n)).trans (u54.trans (u55.trans (loop54 n)))) (by omega)
theorem loop63 : ∀ (n : Nat) {va : Tr}, Go B (3 * n + 1) (us 65 rg ar it va (numT n) re be dn op se ye) (us 66 rg ar it (tlN n va) .nil re be dn op se ye)
  | 0, _ => u65n
  | n + 1, _ => Go.cast ((u65y (numT_ne n)).trans (u63.trans (u64.trans (loop63 n)))) (by omega)
theorem fetch {o a y r : Tr} : Go B 5 (us 5 rg ar it va ta (.pair (.pair o (.pair a y)) r) be dn op se ye) (us 10 rg y (.pair o (.pair a y)) va a (.pair (.pair o (.pair a y)) r) be dn o se ye) := by
  have h : Go B _ (us 5 rg ar it va ta (.pair (.pair o (.pair a y)) r) be dn op se ye) _ := (u5).trans ((u6).trans ((u7).trans ((u8).trans (u9))))
  exact h.cast (by omega)
theorem oper0 (hy : ye ≠ .nil) : Go B 3 (us 10 rg ar it va ta re be dn .nil se ye) (us 86 rg ar it ar ta re be dn .nil se ye) := by
  have h : Go B _ (us 10 rg ar it va ta re be dn .nil se ye) _ := (u10n).trans ((u11).trans (u12y hy))
  exact h.cast (by omega)
theorem oper1 (n : Nat) (l : List Tr) (hy : ye ≠ .nil) : Go B (3 * n + 8) (us 10 (lst l) (numT n) it va ta re be dn (.pair .nil .nil) se ye) (us 86 (lst l) .nil it (l.getD n .nil) ta re be dn .nil se ye) := by
  have h : Go B _ (us 10 (lst l) (numT n) it va ta re be dn (.pair .nil .nil) se ye) _ := (u10y (fun h => Tr.noConfusion h)).trans ((u13).trans ((u14n).trans ((u15).trans ((u16y hy).trans ((loop17 n).trans ((u20).trans (u21y hy)))))))
  simp only [hd_tlN] at h
  exact h.cast (by omega)
theorem oper2 (m n : Nat) (l : List Tr) (hy : ye ≠ .nil) (hz : ¬ B → (tx (.pair (l.getD m .nil) (l.getD n .nil))).length ≤ 2000000) : Go B (3 * m + 3 * n + 17) (us 10 (lst l) (.pair (numT m) (numT n)) it va ta re be dn (.pair .nil (.pair .nil .nil)) se ye) (us 86 (lst l) .nil it (.pair (l.getD m .nil) (l.getD n .nil)) ta re be dn .nil (l.getD n .nil) ye) := by
  have h : Go B _ (us 10 (lst l) (.pair (numT m) (numT n)) it va ta re be dn (.pair .nil (.pair .nil .nil)) se ye) _ := (u10y (fun h => Tr.noConfusion h)).trans ((u13).trans ((u14y (fun h => Tr.noConfusion h)).trans ((u22).trans ((u23n).trans ((u24).trans ((u25).trans ((u26y hy).trans ((loop27 m).trans ((u30).trans ((u31).trans ((u32).trans ((u33y hy).trans ((loop34 n).trans ((u37).trans ((u38 (by rw [hd_tlN, hd_tlN]; exact hz)).trans (u39y hy))))))))))))))))
  simp only [hd_tlN] at h
  exact h.cast (by omega)
theorem oper3 (n : Nat) (l : List Tr) (hy : ye ≠ .nil) : Go B (3 * n + 13) (us 10 (lst l) (numT n) it va ta re be dn (.pair .nil (.pair .nil (.pair .nil .nil))) se ye) (us 86 (lst l) .nil it (hdT (l.getD n .nil)) ta re be dn .nil se ye) := by
  have h : Go B _ (us 10 (lst l) (numT n) it va ta re be dn (.pair .nil (.pair .nil (.pair .nil .nil))) se ye) _ := (u10y (fun h => Tr.noConfusion h)).trans ((u13).trans ((u14y (fun h => Tr.noConfusion h)).trans ((u22).trans ((u23y (fun h => Tr.noConfusion h)).trans ((u40).trans ((u41n).trans ((u42).trans ((u43y hy).trans ((loop44 n).trans ((u47).trans ((u48).trans (u49y hy))))))))))))
  simp only [hd_tlN] at h
  exact h.cast (by omega)
theorem oper4 (n : Nat) (l : List Tr) (hy : ye ≠ .nil) : Go B (3 * n + 15) (us 10 (lst l) (numT n) it va ta re be dn (.pair .nil (.pair .nil (.pair .nil (.pair .nil .nil)))) se ye) (us 86 (lst l) .nil it (tlT (l.getD n .nil)) ta re be dn .nil se ye) := by
  have h : Go B _ (us 10 (lst l) (numT n) it va ta re be dn (.pair .nil (.pair .nil (.pair .nil (.pair .nil .nil)))) se ye) _ := (u10y (fun h => Tr.noConfusion h)).trans ((u13).trans ((u14y (fun h => Tr.noConfusion h)).trans ((u22).trans ((u23y (fun h => Tr.noConfusion h)).trans ((u40).trans ((u41y (fun h => Tr.noConfusion h)).trans ((u50).trans ((u51n).trans ((u52).trans ((u53y hy).trans ((loop54 n).trans ((u57).trans ((u58).trans (u59y hy))))))))))))))
  simp only [hd_tlN] at h
  exact h.cast (by omega)
theorem oper5 (n : Nat) (l : List Tr) (hy : ye ≠ .nil) : Go B (3 * n + 14) (us 10 (lst l) ar it va (numT n) re be dn (.pair .nil (.pair .nil (.pair .nil (.pair .nil (.pair .nil .nil))))) se ye) (us 67 (lst l) ar it (l.getD n .nil) .nil re be dn .nil se ye) := by
  have h : Go B _ (us 10 (lst l) ar it va (numT n) re be dn (.pair .nil (.pair .nil (.pair .nil (.pair .nil (.pair .nil .nil))))) se ye) _ := (u10y (fun h => Tr.noConfusion h)).trans ((u13).trans ((u14y (fun h => Tr.noConfusion h)).trans ((u22).trans ((u23y (fun h => Tr.noConfusion h)).trans ((u40).trans ((u41y (fun h => Tr.noConfusion h)).trans ((u50).trans ((u51y (fun h => Tr.noConfusion h)).trans ((u60).trans ((u61).trans ((u62y hy).trans ((loop63 n).trans (u66)))))))))))))
  simp only [hd_tlN] at h
  exact h.cast (by omega)
end
theorem tx_lst_cons (a : Tr) (l : List Tr) : (tx (lst (a :: l))).length = 1 + (tx a).length + (tx (lst l)).length := tx_pair _ _
theorem hd_lst (l : List Tr) : hdT (lst l) = l.headD .nil := by cases l <;> rfl
theorem tl_lst (l : List Tr) : tlT (lst l) = lst l.tail := by cases l <;> rfl
theorem lst_ne {a : Tr} {l : List Tr} : lst (a :: l) ≠ .nil := fun h => Tr.noConfusion h
/-- what is set aside: the first n of l, the last one first, before bf -/
def rv : Nat → List Tr → List Tr → List Tr
  | 0, _, bf => bf
  | n + 1, l, bf => rv n l.tail (l.headD .nil :: bf)
section
variable {B : Prop} {rg ar it va ta re be dn op se ye : Tr}
theorem loopS : ∀ (n : Nat) (l bf : List Tr) {it : Tr}, (¬ B → (tx (lst l)).length + (tx (lst bf)).length + 2 * n ≤ 2000000) → ∃ it', Go B (5 * n + 1) (us 91 (lst l) ar it va (numT n) re (lst bf) dn op se ye) (us 92 (lst (l.drop n)) ar it' va .nil re (lst (rv n l bf)) dn op se ye)
  | 0, l, bf, it, _ => ⟨it, by rw [List.drop_zero]; exact u91n⟩
  | n + 1, l, bf, it, h => by
    have hz : ¬ B → (tx (lst l.tail)).length + (tx (lst (l.headD .nil :: bf))).length + 2 * n ≤ 2000000 := fun hb => by
      have h1 := h hb
      rw [tx_lst_cons]
      cases l with
      | nil => simp [lst, tx] at h1 ⊢; omega
      | cons a l => rw [tx_lst_cons] at h1; simp only [List.tail_cons, List.headD_cons]; omega
    obtain ⟨it', k⟩ := loopS n l.tail (l.headD .nil :: bf) (it := l.headD .nil) hz
    refine ⟨it', ?_⟩
    have k1 : Go B _ (us 91 (lst l) ar it va (numT (n + 1)) re (lst bf) dn op se ye) _ := (u91y (numT_ne n)).trans (u87.trans u88)
    rw [hd_lst] at k1
    have k2 := k1.trans (u89 (fun hb => by
      have h1 := hz hb
      rw [tx_lst_cons] at h1; rw [tx_pair]; omega))
    have k3 := k2.trans u90
    rw [tl_lst] at k3
    have k4 := k3.trans k
    rw [show l.tail.drop n = l.drop (n + 1) from by cases l <;> simp] at k4
    exact k4.cast (by omega)
theorem loopB : ∀ (bf r : List Tr) {it : Tr}, (¬ B → (tx (lst bf)).length + (tx (lst r)).length ≤ 2000001) → ∃ it', Go B (4 * bf.length + 1) (us 98 (lst r) ar it va ta re (lst bf) dn op se ye) (us 99 (lst (bf.reverse ++ r)) ar it' va ta re .nil dn op se ye)
  | [], r, it, _ => ⟨it, u98n⟩
  | x :: bf, r, it, h => by
    have hz : ¬ B → (tx (lst bf)).length + (tx (lst (x :: r))).length ≤ 2000001 := fun hb => by
      have h1 := h hb
      rw [tx_lst_cons] at h1 ⊢; omega
    obtain ⟨it', k⟩ := loopB bf (x :: r) (it := x) hz
    refine ⟨it', ?_⟩
    have k1 : Go B _ (us 98 (lst r) ar it va ta re (lst (x :: bf)) dn op se ye) _ := (u98y lst_ne).trans u95
    have k2 := k1.trans (u96 (fun hb => by
      have h1 := hz hb; have h2 := tx_pos (lst bf)
      rw [tx_lst_cons] at h1; rw [tx_pair]; show 1 + (tx x).length + _ ≤ _; omega))
    have k3 : Go B _ _ (us 98 (lst (x :: r)) ar x va ta re (lst bf) dn op se ye) := k2.trans u97
    have k4 := k3.trans k
    rw [show bf.reverse ++ x :: r = (x :: bf).reverse ++ r from by simp] at k4
    exact k4.cast (by simp only [List.length_cons]; omega)
theorem loopF : ∀ (a b c : List Tr) {it : Tr}, (¬ B → (tx (lst (a ++ b))).length + (tx (lst c)).length ≤ 2000001) → ∃ it', Go B (5 * a.length + 1) (us 77 rg (numT a.length) it va ta (lst (a ++ b)) be (lst c) op se ye) (us 78 rg .nil it' va ta (lst b) be (lst (a.reverse ++ c)) op se ye)
  | [], b, c, it, _ => ⟨it, u77n⟩
  | x :: a, b, c, it, h => by
    have hz : ¬ B → (tx (lst (a ++ b))).length + (tx (lst (x :: c))).length ≤ 2000001 := fun hb => by
      have h1 := h hb
      rw [List.cons_append, tx_lst_cons] at h1; rw [tx_lst_cons]; omega
    obtain ⟨it', k⟩ := loopF a b (x :: c) (it := x) hz
    refine ⟨it', ?_⟩
    have k1 : Go B _ (us 77 rg (numT (a.length + 1)) it va ta (lst (x :: (a ++ b))) be (lst c) op se ye) _ := (u77y (numT_ne a.length)).trans (u73.trans u74)
    have k2 := k1.trans (u75 (fun hb => by
      have h1 := hz hb; have h2 := tx_pos (lst (a ++ b))
      rw [tx_lst_cons] at h1; rw [tx_pair]; show 1 + (tx x).length + _ ≤ _; omega))
    have k3 : Go B _ _ (us 77 rg (numT a.length) x va ta (lst (a ++ b)) be (lst (x :: c)) op se ye) := k2.trans u76
    have k4 := k3.trans k
    rw [show a.reverse ++ x :: c = (x :: a).reverse ++ c from by simp] at k4
    exact k4.cast (by simp only [List.length_cons]; omega)
theorem loopK : ∀ (a b c : List Tr) {it : Tr}, (¬ B → (tx (lst (a ++ b))).length + (tx (lst c)).length ≤ 2000001) → ∃ it', Go B (5 * a.length + 1) (us 84 rg (numT a.length) it va ta (lst c) be (lst (a ++ b)) op se ye) (us 85 rg .nil it' va ta (lst (a.reverse ++ c)) be (lst b) op se ye)
  | [], b, c, it, _ => ⟨it, u84n⟩
  | x :: a, b, c, it, h => by
    have hz : ¬ B → (tx (lst (a ++ b))).length + (tx (lst (x :: c))).length ≤ 2000001 := fun hb => by
      have h1 := h hb
      rw [List.cons_append, tx_lst_cons] at h1; rw [tx_lst_cons]; omega
    obtain ⟨it', k⟩ := loopK a b (x :: c) (it := x) hz
    refine ⟨it', ?_⟩
    have k1 : Go B _ (us 84 rg (numT (a.length + 1)) it va ta (lst c) be (lst (x :: (a ++ b))) op se ye) _ := (u84y (numT_ne a.length)).trans (u80.trans u81)
    have k2 := k1.trans (u82 (fun hb => by
      have h1 := hz hb; have h2 := tx_pos (lst (a ++ b))
      rw [tx_lst_cons] at h1; rw [tx_pair]; show 1 + (tx x).length + _ ≤ _; omega))
    have k3 : Go B _ _ (us 84 rg (numT a.length) x va ta (lst (x :: c)) be (lst (a ++ b)) op se ye) := k2.trans u83
    have k4 := k3.trans k
    rw [show a.reverse ++ x :: c = (x :: a).reverse ++ c from by simp] at k4
    exact k4.cast (by simp only [List.length_cons]; omega)
end
end Go.Proofs.YtkpfocgcnehajabGreatDoor
