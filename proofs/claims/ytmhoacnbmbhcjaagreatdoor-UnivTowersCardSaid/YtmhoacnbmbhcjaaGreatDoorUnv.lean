/- The universal program, as a list, and what it does. By an AI agent. -/
import Derived.Test.YtmhoacnbmbhcjaaGreatDoorMth
import Derived.Test.YtmhoacnbmbhcjaaGreatDoorCod
namespace Go.Proofs.YtmhoacnbmbhcjaaGreatDoor
open Go.RowKit Pl
/-- the universal program -/
def univL : List Ins := [
  ⟨3, 5, 0, 0, []⟩,
  ⟨4, 0, 0, 0, []⟩,
  ⟨2, 0, 0, 7, []⟩,
  ⟨0, 10, 0, 0, [49, 48, 48]⟩,
  ⟨5, 10, 98, 0, []⟩,
  ⟨3, 2, 5, 0, []⟩,
  ⟨3, 8, 2, 0, []⟩,
  ⟨4, 1, 2, 0, []⟩,
  ⟨3, 4, 1, 0, []⟩,
  ⟨4, 1, 1, 0, []⟩,
  ⟨5, 8, 3, 0, []⟩,
  ⟨1, 3, 1, 0, []⟩,
  ⟨5, 10, 74, 0, []⟩,
  ⟨4, 8, 8, 0, []⟩,
  ⟨5, 8, 8, 0, []⟩,
  ⟨1, 3, 0, 0, []⟩,
  ⟨5, 10, 3, 0, []⟩,
  ⟨4, 3, 3, 0, []⟩,
  ⟨4, 1, 1, 0, []⟩,
  ⟨5, 1, -2, 0, []⟩,
  ⟨3, 3, 3, 0, []⟩,
  ⟨5, 10, 65, 0, []⟩,
  ⟨4, 8, 8, 0, []⟩,
  ⟨5, 8, 17, 0, []⟩,
  ⟨3, 9, 1, 0, []⟩,
  ⟨1, 3, 0, 0, []⟩,
  ⟨5, 10, 3, 0, []⟩,
  ⟨4, 3, 3, 0, []⟩,
  ⟨4, 9, 9, 0, []⟩,
  ⟨5, 9, -2, 0, []⟩,
  ⟨3, 3, 3, 0, []⟩,
  ⟨4, 1, 1, 0, []⟩,
  ⟨1, 9, 0, 0, []⟩,
  ⟨5, 10, 3, 0, []⟩,
  ⟨4, 9, 9, 0, []⟩,
  ⟨4, 1, 1, 0, []⟩,
  ⟨5, 1, -2, 0, []⟩,
  ⟨3, 9, 9, 0, []⟩,
  ⟨2, 3, 3, 9, []⟩,
  ⟨5, 10, 47, 0, []⟩,
  ⟨4, 8, 8, 0, []⟩,
  ⟨5, 8, 9, 0, []⟩,
  ⟨1, 3, 0, 0, []⟩,
  ⟨5, 10, 3, 0, []⟩,
  ⟨4, 3, 3, 0, []⟩,
  ⟨4, 1, 1, 0, []⟩,
  ⟨5, 1, -2, 0, []⟩,
  ⟨3, 3, 3, 0, []⟩,
  ⟨3, 3, 3, 0, []⟩,
  ⟨5, 10, 37, 0, []⟩,
  ⟨4, 8, 8, 0, []⟩,
  ⟨5, 8, 9, 0, []⟩,
  ⟨1, 3, 0, 0, []⟩,
  ⟨5, 10, 3, 0, []⟩,
  ⟨4, 3, 3, 0, []⟩,
  ⟨4, 1, 1, 0, []⟩,
  ⟨5, 1, -2, 0, []⟩,
  ⟨3, 3, 3, 0, []⟩,
  ⟨4, 3, 3, 0, []⟩,
  ⟨5, 10, 27, 0, []⟩,
  ⟨4, 8, 8, 0, []⟩,
  ⟨1, 3, 0, 0, []⟩,
  ⟨5, 10, 3, 0, []⟩,
  ⟨4, 3, 3, 0, []⟩,
  ⟨4, 4, 4, 0, []⟩,
  ⟨5, 4, -2, 0, []⟩,
  ⟨3, 3, 3, 0, []⟩,
  ⟨5, 3, 2, 0, []⟩,
  ⟨5, 10, 31, 0, []⟩,
  ⟨3, 3, 1, 0, []⟩,
  ⟨4, 1, 1, 0, []⟩,
  ⟨5, 3, 8, 0, []⟩,
  ⟨5, 10, 5, 0, []⟩,
  ⟨4, 1, 1, 0, []⟩,
  ⟨3, 2, 5, 0, []⟩,
  ⟨2, 7, 2, 7, []⟩,
  ⟨4, 5, 5, 0, []⟩,
  ⟨5, 1, -4, 0, []⟩,
  ⟨5, 10, 24, 0, []⟩,
  ⟨5, 10, 5, 0, []⟩,
  ⟨4, 1, 1, 0, []⟩,
  ⟨3, 2, 7, 0, []⟩,
  ⟨2, 5, 2, 5, []⟩,
  ⟨4, 7, 7, 0, []⟩,
  ⟨5, 1, -4, 0, []⟩,
  ⟨5, 10, 17, 0, []⟩,
  ⟨5, 10, 5, 0, []⟩,
  ⟨4, 4, 4, 0, []⟩,
  ⟨3, 2, 0, 0, []⟩,
  ⟨2, 6, 2, 6, []⟩,
  ⟨4, 0, 0, 0, []⟩,
  ⟨5, 4, -4, 0, []⟩,
  ⟨4, 0, 0, 0, []⟩,
  ⟨2, 0, 3, 0, []⟩,
  ⟨5, 10, 4, 0, []⟩,
  ⟨3, 2, 6, 0, []⟩,
  ⟨2, 0, 2, 0, []⟩,
  ⟨4, 6, 6, 0, []⟩,
  ⟨5, 6, -3, 0, []⟩,
  ⟨3, 2, 5, 0, []⟩,
  ⟨2, 7, 2, 7, []⟩,
  ⟨4, 5, 5, 0, []⟩,
  ⟨5, 5, -97, 0, []⟩,
  ⟨3, 0, 0, 0, []⟩]
theorem univL_len : univL.length = 104 := rfl
/-- a state of it: the place, and the eleven registers that it uses -/
def us (k : Nat) (rg ar it va ta re be dn op se ye : Tr) : St := ⟨k, [rg, ar, it, va, ta, re, be, dn, op, se, ye, .nil, .nil, .nil, .nil, .nil, .nil, .nil, .nil, .nil, .nil, .nil, .nil, .nil, .nil, .nil, .nil, .nil, .nil, .nil, .nil, .nil]⟩
/-- from s to t in n steps, or stopped before by a tree that is too large, where B says that it may be -/
def Go (B : Prop) (n : Nat) (s t : St) : Prop := Steps univL s n t ∨ (B ∧ ∃ m u, m < n ∧ Steps univL s m u ∧ u.at_ ≠ univL.length ∧ stepP univL u = none)
theorem Go.refl (B : Prop) (s : St) : Go B 0 s s := .inl .zero
theorem Go.trans {B : Prop} {m n : Nat} {s t u : St} (h : Go B m s t) (k : Go B n t u) : Go B (m + n) s u := by
  rcases h with h | ⟨hb, j, v, hj, hs, h1, h2⟩
  · rcases k with k | ⟨hb, j, v, hj, hs, h1, h2⟩
    · exact .inl (h.then k)
    · exact .inr ⟨hb, m + j, v, by omega, h.then hs, h1, h2⟩
  · exact .inr ⟨hb, j, v, by omega, hs, h1, h2⟩
theorem Go.cast {B : Prop} {m n : Nat} {s t : St} (h : Go B m s t) (e : m = n) : Go B n s t := e ▸ h
theorem Go.one {B : Prop} {s t : St} (he : s.at_ ≠ univL.length) (h : stepP univL s = some t) : Go B 1 s t := .inl (Steps.succ .zero he h)
theorem Go.cons {B : Prop} {s t : St} {z : Tr} (he : s.at_ ≠ univL.length) (hs : stepP univL s = if (tx z).length ≤ 2000000 then some t else none) (h : ¬ B → (tx z).length ≤ 2000000) : Go B 1 s t := by
  by_cases hz : (tx z).length ≤ 2000000
  · exact Go.one he (by rw [hs, if_pos hz])
  · by_cases hb : B
    · exact .inr ⟨hb, 0, s, by omega, .zero, he, by rw [hs, if_neg hz]⟩
    · exact absurd (h hb) hz
section
variable {B : Prop} {rg ar it va ta re be dn op se ye : Tr}
set_option maxRecDepth 10000 in
theorem u0 : Go B 1 (us 0 rg ar it va ta re be dn op se ye) (us 1 rg ar it va ta (hdT rg) be dn op se ye) := Go.one (by show (0 : Nat) ≠ 104; decide) rfl
set_option maxRecDepth 10000 in
theorem u1 : Go B 1 (us 1 rg ar it va ta re be dn op se ye) (us 2 (tlT rg) ar it va ta re be dn op se ye) := Go.one (by show (1 : Nat) ≠ 104; decide) rfl
set_option maxRecDepth 10000 in
theorem u2 (h : ¬ B → (tx (.pair rg dn)).length ≤ 2000000) : Go B 1 (us 2 rg ar it va ta re be dn op se ye) (us 3 (.pair rg dn) ar it va ta re be dn op se ye) := Go.cons (z := .pair rg dn) (by show (2 : Nat) ≠ 104; decide) rfl h
set_option maxRecDepth 10000 in
theorem u3 : Go B 1 (us 3 rg ar it va ta re be dn op se ye) (us 4 rg ar it va ta re be dn op se (rd [49, 48, 48])) := Go.one (by show (3 : Nat) ≠ 104; decide) rfl
set_option maxRecDepth 10000 in
theorem u4y (h : ye ≠ .nil) : Go B 1 (us 4 rg ar it va ta re be dn op se ye) (us 102 rg ar it va ta re be dn op se ye) := Go.one (by show (4 : Nat) ≠ 104; decide) ((show stepP univL (us 4 rg ar it va ta re be dn op se ye) = stepI ⟨5, 10, 98, 0, []⟩ (us 4 rg ar it va ta re be dn op se ye) from rfl).trans ((stepI_5 _ rfl).trans (if_neg h)))
set_option maxRecDepth 10000 in
theorem u4n : Go B 1 (us 4 rg ar it va ta re be dn op se .nil) (us 5 rg ar it va ta re be dn op se .nil) := Go.one (by show (4 : Nat) ≠ 104; decide) ((show stepP univL (us 4 rg ar it va ta re be dn op se .nil) = stepI ⟨5, 10, 98, 0, []⟩ (us 4 rg ar it va ta re be dn op se .nil) from rfl).trans ((stepI_5 _ rfl).trans (if_pos rfl)))
set_option maxRecDepth 10000 in
theorem u5 : Go B 1 (us 5 rg ar it va ta re be dn op se ye) (us 6 rg ar (hdT re) va ta re be dn op se ye) := Go.one (by show (5 : Nat) ≠ 104; decide) rfl
set_option maxRecDepth 10000 in
theorem u6 : Go B 1 (us 6 rg ar it va ta re be dn op se ye) (us 7 rg ar it va ta re be dn (hdT it) se ye) := Go.one (by show (6 : Nat) ≠ 104; decide) rfl
set_option maxRecDepth 10000 in
theorem u7 : Go B 1 (us 7 rg ar it va ta re be dn op se ye) (us 8 rg (tlT it) it va ta re be dn op se ye) := Go.one (by show (7 : Nat) ≠ 104; decide) rfl
set_option maxRecDepth 10000 in
theorem u8 : Go B 1 (us 8 rg ar it va ta re be dn op se ye) (us 9 rg ar it va (hdT ar) re be dn op se ye) := Go.one (by show (8 : Nat) ≠ 104; decide) rfl
set_option maxRecDepth 10000 in
theorem u9 : Go B 1 (us 9 rg ar it va ta re be dn op se ye) (us 10 rg (tlT ar) it va ta re be dn op se ye) := Go.one (by show (9 : Nat) ≠ 104; decide) rfl
set_option maxRecDepth 10000 in
theorem u10y (h : op ≠ .nil) : Go B 1 (us 10 rg ar it va ta re be dn op se ye) (us 13 rg ar it va ta re be dn op se ye) := Go.one (by show (10 : Nat) ≠ 104; decide) ((show stepP univL (us 10 rg ar it va ta re be dn op se ye) = stepI ⟨5, 8, 3, 0, []⟩ (us 10 rg ar it va ta re be dn op se ye) from rfl).trans ((stepI_5 _ rfl).trans (if_neg h)))
set_option maxRecDepth 10000 in
theorem u10n : Go B 1 (us 10 rg ar it va ta re be dn .nil se ye) (us 11 rg ar it va ta re be dn .nil se ye) := Go.one (by show (10 : Nat) ≠ 104; decide) ((show stepP univL (us 10 rg ar it va ta re be dn .nil se ye) = stepI ⟨5, 8, 3, 0, []⟩ (us 10 rg ar it va ta re be dn .nil se ye) from rfl).trans ((stepI_5 _ rfl).trans (if_pos rfl)))
set_option maxRecDepth 10000 in
theorem u11 : Go B 1 (us 11 rg ar it va ta re be dn op se ye) (us 12 rg ar it ar ta re be dn op se ye) := Go.one (by show (11 : Nat) ≠ 104; decide) rfl
set_option maxRecDepth 10000 in
theorem u12y (h : ye ≠ .nil) : Go B 1 (us 12 rg ar it va ta re be dn op se ye) (us 86 rg ar it va ta re be dn op se ye) := Go.one (by show (12 : Nat) ≠ 104; decide) ((show stepP univL (us 12 rg ar it va ta re be dn op se ye) = stepI ⟨5, 10, 74, 0, []⟩ (us 12 rg ar it va ta re be dn op se ye) from rfl).trans ((stepI_5 _ rfl).trans (if_neg h)))
set_option maxRecDepth 10000 in
theorem u12n : Go B 1 (us 12 rg ar it va ta re be dn op se .nil) (us 13 rg ar it va ta re be dn op se .nil) := Go.one (by show (12 : Nat) ≠ 104; decide) ((show stepP univL (us 12 rg ar it va ta re be dn op se .nil) = stepI ⟨5, 10, 74, 0, []⟩ (us 12 rg ar it va ta re be dn op se .nil) from rfl).trans ((stepI_5 _ rfl).trans (if_pos rfl)))
set_option maxRecDepth 10000 in
theorem u13 : Go B 1 (us 13 rg ar it va ta re be dn op se ye) (us 14 rg ar it va ta re be dn (tlT op) se ye) := Go.one (by show (13 : Nat) ≠ 104; decide) rfl
set_option maxRecDepth 10000 in
theorem u14y (h : op ≠ .nil) : Go B 1 (us 14 rg ar it va ta re be dn op se ye) (us 22 rg ar it va ta re be dn op se ye) := Go.one (by show (14 : Nat) ≠ 104; decide) ((show stepP univL (us 14 rg ar it va ta re be dn op se ye) = stepI ⟨5, 8, 8, 0, []⟩ (us 14 rg ar it va ta re be dn op se ye) from rfl).trans ((stepI_5 _ rfl).trans (if_neg h)))
set_option maxRecDepth 10000 in
theorem u14n : Go B 1 (us 14 rg ar it va ta re be dn .nil se ye) (us 15 rg ar it va ta re be dn .nil se ye) := Go.one (by show (14 : Nat) ≠ 104; decide) ((show stepP univL (us 14 rg ar it va ta re be dn .nil se ye) = stepI ⟨5, 8, 8, 0, []⟩ (us 14 rg ar it va ta re be dn .nil se ye) from rfl).trans ((stepI_5 _ rfl).trans (if_pos rfl)))
set_option maxRecDepth 10000 in
theorem u15 : Go B 1 (us 15 rg ar it va ta re be dn op se ye) (us 16 rg ar it rg ta re be dn op se ye) := Go.one (by show (15 : Nat) ≠ 104; decide) rfl
set_option maxRecDepth 10000 in
theorem u16y (h : ye ≠ .nil) : Go B 1 (us 16 rg ar it va ta re be dn op se ye) (us 19 rg ar it va ta re be dn op se ye) := Go.one (by show (16 : Nat) ≠ 104; decide) ((show stepP univL (us 16 rg ar it va ta re be dn op se ye) = stepI ⟨5, 10, 3, 0, []⟩ (us 16 rg ar it va ta re be dn op se ye) from rfl).trans ((stepI_5 _ rfl).trans (if_neg h)))
set_option maxRecDepth 10000 in
theorem u16n : Go B 1 (us 16 rg ar it va ta re be dn op se .nil) (us 17 rg ar it va ta re be dn op se .nil) := Go.one (by show (16 : Nat) ≠ 104; decide) ((show stepP univL (us 16 rg ar it va ta re be dn op se .nil) = stepI ⟨5, 10, 3, 0, []⟩ (us 16 rg ar it va ta re be dn op se .nil) from rfl).trans ((stepI_5 _ rfl).trans (if_pos rfl)))
set_option maxRecDepth 10000 in
theorem u17 : Go B 1 (us 17 rg ar it va ta re be dn op se ye) (us 18 rg ar it (tlT va) ta re be dn op se ye) := Go.one (by show (17 : Nat) ≠ 104; decide) rfl
set_option maxRecDepth 10000 in
theorem u18 : Go B 1 (us 18 rg ar it va ta re be dn op se ye) (us 19 rg (tlT ar) it va ta re be dn op se ye) := Go.one (by show (18 : Nat) ≠ 104; decide) rfl
set_option maxRecDepth 10000 in
theorem u19y (h : ar ≠ .nil) : Go B 1 (us 19 rg ar it va ta re be dn op se ye) (us 17 rg ar it va ta re be dn op se ye) := Go.one (by show (19 : Nat) ≠ 104; decide) ((show stepP univL (us 19 rg ar it va ta re be dn op se ye) = stepI ⟨5, 1, -2, 0, []⟩ (us 19 rg ar it va ta re be dn op se ye) from rfl).trans ((stepI_5 _ rfl).trans (if_neg h)))
set_option maxRecDepth 10000 in
theorem u19n : Go B 1 (us 19 rg .nil it va ta re be dn op se ye) (us 20 rg .nil it va ta re be dn op se ye) := Go.one (by show (19 : Nat) ≠ 104; decide) ((show stepP univL (us 19 rg .nil it va ta re be dn op se ye) = stepI ⟨5, 1, -2, 0, []⟩ (us 19 rg .nil it va ta re be dn op se ye) from rfl).trans ((stepI_5 _ rfl).trans (if_pos rfl)))
set_option maxRecDepth 10000 in
theorem u20 : Go B 1 (us 20 rg ar it va ta re be dn op se ye) (us 21 rg ar it (hdT va) ta re be dn op se ye) := Go.one (by show (20 : Nat) ≠ 104; decide) rfl
set_option maxRecDepth 10000 in
theorem u21y (h : ye ≠ .nil) : Go B 1 (us 21 rg ar it va ta re be dn op se ye) (us 86 rg ar it va ta re be dn op se ye) := Go.one (by show (21 : Nat) ≠ 104; decide) ((show stepP univL (us 21 rg ar it va ta re be dn op se ye) = stepI ⟨5, 10, 65, 0, []⟩ (us 21 rg ar it va ta re be dn op se ye) from rfl).trans ((stepI_5 _ rfl).trans (if_neg h)))
set_option maxRecDepth 10000 in
theorem u21n : Go B 1 (us 21 rg ar it va ta re be dn op se .nil) (us 22 rg ar it va ta re be dn op se .nil) := Go.one (by show (21 : Nat) ≠ 104; decide) ((show stepP univL (us 21 rg ar it va ta re be dn op se .nil) = stepI ⟨5, 10, 65, 0, []⟩ (us 21 rg ar it va ta re be dn op se .nil) from rfl).trans ((stepI_5 _ rfl).trans (if_pos rfl)))
set_option maxRecDepth 10000 in
theorem u22 : Go B 1 (us 22 rg ar it va ta re be dn op se ye) (us 23 rg ar it va ta re be dn (tlT op) se ye) := Go.one (by show (22 : Nat) ≠ 104; decide) rfl
set_option maxRecDepth 10000 in
theorem u23y (h : op ≠ .nil) : Go B 1 (us 23 rg ar it va ta re be dn op se ye) (us 40 rg ar it va ta re be dn op se ye) := Go.one (by show (23 : Nat) ≠ 104; decide) ((show stepP univL (us 23 rg ar it va ta re be dn op se ye) = stepI ⟨5, 8, 17, 0, []⟩ (us 23 rg ar it va ta re be dn op se ye) from rfl).trans ((stepI_5 _ rfl).trans (if_neg h)))
set_option maxRecDepth 10000 in
theorem u23n : Go B 1 (us 23 rg ar it va ta re be dn .nil se ye) (us 24 rg ar it va ta re be dn .nil se ye) := Go.one (by show (23 : Nat) ≠ 104; decide) ((show stepP univL (us 23 rg ar it va ta re be dn .nil se ye) = stepI ⟨5, 8, 17, 0, []⟩ (us 23 rg ar it va ta re be dn .nil se ye) from rfl).trans ((stepI_5 _ rfl).trans (if_pos rfl)))
set_option maxRecDepth 10000 in
theorem u24 : Go B 1 (us 24 rg ar it va ta re be dn op se ye) (us 25 rg ar it va ta re be dn op (hdT ar) ye) := Go.one (by show (24 : Nat) ≠ 104; decide) rfl
set_option maxRecDepth 10000 in
theorem u25 : Go B 1 (us 25 rg ar it va ta re be dn op se ye) (us 26 rg ar it rg ta re be dn op se ye) := Go.one (by show (25 : Nat) ≠ 104; decide) rfl
set_option maxRecDepth 10000 in
theorem u26y (h : ye ≠ .nil) : Go B 1 (us 26 rg ar it va ta re be dn op se ye) (us 29 rg ar it va ta re be dn op se ye) := Go.one (by show (26 : Nat) ≠ 104; decide) ((show stepP univL (us 26 rg ar it va ta re be dn op se ye) = stepI ⟨5, 10, 3, 0, []⟩ (us 26 rg ar it va ta re be dn op se ye) from rfl).trans ((stepI_5 _ rfl).trans (if_neg h)))
set_option maxRecDepth 10000 in
theorem u26n : Go B 1 (us 26 rg ar it va ta re be dn op se .nil) (us 27 rg ar it va ta re be dn op se .nil) := Go.one (by show (26 : Nat) ≠ 104; decide) ((show stepP univL (us 26 rg ar it va ta re be dn op se .nil) = stepI ⟨5, 10, 3, 0, []⟩ (us 26 rg ar it va ta re be dn op se .nil) from rfl).trans ((stepI_5 _ rfl).trans (if_pos rfl)))
set_option maxRecDepth 10000 in
theorem u27 : Go B 1 (us 27 rg ar it va ta re be dn op se ye) (us 28 rg ar it (tlT va) ta re be dn op se ye) := Go.one (by show (27 : Nat) ≠ 104; decide) rfl
set_option maxRecDepth 10000 in
theorem u28 : Go B 1 (us 28 rg ar it va ta re be dn op se ye) (us 29 rg ar it va ta re be dn op (tlT se) ye) := Go.one (by show (28 : Nat) ≠ 104; decide) rfl
set_option maxRecDepth 10000 in
theorem u29y (h : se ≠ .nil) : Go B 1 (us 29 rg ar it va ta re be dn op se ye) (us 27 rg ar it va ta re be dn op se ye) := Go.one (by show (29 : Nat) ≠ 104; decide) ((show stepP univL (us 29 rg ar it va ta re be dn op se ye) = stepI ⟨5, 9, -2, 0, []⟩ (us 29 rg ar it va ta re be dn op se ye) from rfl).trans ((stepI_5 _ rfl).trans (if_neg h)))
set_option maxRecDepth 10000 in
theorem u29n : Go B 1 (us 29 rg ar it va ta re be dn op .nil ye) (us 30 rg ar it va ta re be dn op .nil ye) := Go.one (by show (29 : Nat) ≠ 104; decide) ((show stepP univL (us 29 rg ar it va ta re be dn op .nil ye) = stepI ⟨5, 9, -2, 0, []⟩ (us 29 rg ar it va ta re be dn op .nil ye) from rfl).trans ((stepI_5 _ rfl).trans (if_pos rfl)))
set_option maxRecDepth 10000 in
theorem u30 : Go B 1 (us 30 rg ar it va ta re be dn op se ye) (us 31 rg ar it (hdT va) ta re be dn op se ye) := Go.one (by show (30 : Nat) ≠ 104; decide) rfl
set_option maxRecDepth 10000 in
theorem u31 : Go B 1 (us 31 rg ar it va ta re be dn op se ye) (us 32 rg (tlT ar) it va ta re be dn op se ye) := Go.one (by show (31 : Nat) ≠ 104; decide) rfl
set_option maxRecDepth 10000 in
theorem u32 : Go B 1 (us 32 rg ar it va ta re be dn op se ye) (us 33 rg ar it va ta re be dn op rg ye) := Go.one (by show (32 : Nat) ≠ 104; decide) rfl
set_option maxRecDepth 10000 in
theorem u33y (h : ye ≠ .nil) : Go B 1 (us 33 rg ar it va ta re be dn op se ye) (us 36 rg ar it va ta re be dn op se ye) := Go.one (by show (33 : Nat) ≠ 104; decide) ((show stepP univL (us 33 rg ar it va ta re be dn op se ye) = stepI ⟨5, 10, 3, 0, []⟩ (us 33 rg ar it va ta re be dn op se ye) from rfl).trans ((stepI_5 _ rfl).trans (if_neg h)))
set_option maxRecDepth 10000 in
theorem u33n : Go B 1 (us 33 rg ar it va ta re be dn op se .nil) (us 34 rg ar it va ta re be dn op se .nil) := Go.one (by show (33 : Nat) ≠ 104; decide) ((show stepP univL (us 33 rg ar it va ta re be dn op se .nil) = stepI ⟨5, 10, 3, 0, []⟩ (us 33 rg ar it va ta re be dn op se .nil) from rfl).trans ((stepI_5 _ rfl).trans (if_pos rfl)))
set_option maxRecDepth 10000 in
theorem u34 : Go B 1 (us 34 rg ar it va ta re be dn op se ye) (us 35 rg ar it va ta re be dn op (tlT se) ye) := Go.one (by show (34 : Nat) ≠ 104; decide) rfl
set_option maxRecDepth 10000 in
theorem u35 : Go B 1 (us 35 rg ar it va ta re be dn op se ye) (us 36 rg (tlT ar) it va ta re be dn op se ye) := Go.one (by show (35 : Nat) ≠ 104; decide) rfl
set_option maxRecDepth 10000 in
theorem u36y (h : ar ≠ .nil) : Go B 1 (us 36 rg ar it va ta re be dn op se ye) (us 34 rg ar it va ta re be dn op se ye) := Go.one (by show (36 : Nat) ≠ 104; decide) ((show stepP univL (us 36 rg ar it va ta re be dn op se ye) = stepI ⟨5, 1, -2, 0, []⟩ (us 36 rg ar it va ta re be dn op se ye) from rfl).trans ((stepI_5 _ rfl).trans (if_neg h)))
set_option maxRecDepth 10000 in
theorem u36n : Go B 1 (us 36 rg .nil it va ta re be dn op se ye) (us 37 rg .nil it va ta re be dn op se ye) := Go.one (by show (36 : Nat) ≠ 104; decide) ((show stepP univL (us 36 rg .nil it va ta re be dn op se ye) = stepI ⟨5, 1, -2, 0, []⟩ (us 36 rg .nil it va ta re be dn op se ye) from rfl).trans ((stepI_5 _ rfl).trans (if_pos rfl)))
set_option maxRecDepth 10000 in
theorem u37 : Go B 1 (us 37 rg ar it va ta re be dn op se ye) (us 38 rg ar it va ta re be dn op (hdT se) ye) := Go.one (by show (37 : Nat) ≠ 104; decide) rfl
set_option maxRecDepth 10000 in
theorem u38 (h : ¬ B → (tx (.pair va se)).length ≤ 2000000) : Go B 1 (us 38 rg ar it va ta re be dn op se ye) (us 39 rg ar it (.pair va se) ta re be dn op se ye) := Go.cons (z := .pair va se) (by show (38 : Nat) ≠ 104; decide) rfl h
set_option maxRecDepth 10000 in
theorem u39y (h : ye ≠ .nil) : Go B 1 (us 39 rg ar it va ta re be dn op se ye) (us 86 rg ar it va ta re be dn op se ye) := Go.one (by show (39 : Nat) ≠ 104; decide) ((show stepP univL (us 39 rg ar it va ta re be dn op se ye) = stepI ⟨5, 10, 47, 0, []⟩ (us 39 rg ar it va ta re be dn op se ye) from rfl).trans ((stepI_5 _ rfl).trans (if_neg h)))
set_option maxRecDepth 10000 in
theorem u39n : Go B 1 (us 39 rg ar it va ta re be dn op se .nil) (us 40 rg ar it va ta re be dn op se .nil) := Go.one (by show (39 : Nat) ≠ 104; decide) ((show stepP univL (us 39 rg ar it va ta re be dn op se .nil) = stepI ⟨5, 10, 47, 0, []⟩ (us 39 rg ar it va ta re be dn op se .nil) from rfl).trans ((stepI_5 _ rfl).trans (if_pos rfl)))
set_option maxRecDepth 10000 in
theorem u40 : Go B 1 (us 40 rg ar it va ta re be dn op se ye) (us 41 rg ar it va ta re be dn (tlT op) se ye) := Go.one (by show (40 : Nat) ≠ 104; decide) rfl
set_option maxRecDepth 10000 in
theorem u41y (h : op ≠ .nil) : Go B 1 (us 41 rg ar it va ta re be dn op se ye) (us 50 rg ar it va ta re be dn op se ye) := Go.one (by show (41 : Nat) ≠ 104; decide) ((show stepP univL (us 41 rg ar it va ta re be dn op se ye) = stepI ⟨5, 8, 9, 0, []⟩ (us 41 rg ar it va ta re be dn op se ye) from rfl).trans ((stepI_5 _ rfl).trans (if_neg h)))
set_option maxRecDepth 10000 in
theorem u41n : Go B 1 (us 41 rg ar it va ta re be dn .nil se ye) (us 42 rg ar it va ta re be dn .nil se ye) := Go.one (by show (41 : Nat) ≠ 104; decide) ((show stepP univL (us 41 rg ar it va ta re be dn .nil se ye) = stepI ⟨5, 8, 9, 0, []⟩ (us 41 rg ar it va ta re be dn .nil se ye) from rfl).trans ((stepI_5 _ rfl).trans (if_pos rfl)))
set_option maxRecDepth 10000 in
theorem u42 : Go B 1 (us 42 rg ar it va ta re be dn op se ye) (us 43 rg ar it rg ta re be dn op se ye) := Go.one (by show (42 : Nat) ≠ 104; decide) rfl
set_option maxRecDepth 10000 in
theorem u43y (h : ye ≠ .nil) : Go B 1 (us 43 rg ar it va ta re be dn op se ye) (us 46 rg ar it va ta re be dn op se ye) := Go.one (by show (43 : Nat) ≠ 104; decide) ((show stepP univL (us 43 rg ar it va ta re be dn op se ye) = stepI ⟨5, 10, 3, 0, []⟩ (us 43 rg ar it va ta re be dn op se ye) from rfl).trans ((stepI_5 _ rfl).trans (if_neg h)))
set_option maxRecDepth 10000 in
theorem u43n : Go B 1 (us 43 rg ar it va ta re be dn op se .nil) (us 44 rg ar it va ta re be dn op se .nil) := Go.one (by show (43 : Nat) ≠ 104; decide) ((show stepP univL (us 43 rg ar it va ta re be dn op se .nil) = stepI ⟨5, 10, 3, 0, []⟩ (us 43 rg ar it va ta re be dn op se .nil) from rfl).trans ((stepI_5 _ rfl).trans (if_pos rfl)))
set_option maxRecDepth 10000 in
theorem u44 : Go B 1 (us 44 rg ar it va ta re be dn op se ye) (us 45 rg ar it (tlT va) ta re be dn op se ye) := Go.one (by show (44 : Nat) ≠ 104; decide) rfl
set_option maxRecDepth 10000 in
theorem u45 : Go B 1 (us 45 rg ar it va ta re be dn op se ye) (us 46 rg (tlT ar) it va ta re be dn op se ye) := Go.one (by show (45 : Nat) ≠ 104; decide) rfl
set_option maxRecDepth 10000 in
theorem u46y (h : ar ≠ .nil) : Go B 1 (us 46 rg ar it va ta re be dn op se ye) (us 44 rg ar it va ta re be dn op se ye) := Go.one (by show (46 : Nat) ≠ 104; decide) ((show stepP univL (us 46 rg ar it va ta re be dn op se ye) = stepI ⟨5, 1, -2, 0, []⟩ (us 46 rg ar it va ta re be dn op se ye) from rfl).trans ((stepI_5 _ rfl).trans (if_neg h)))
set_option maxRecDepth 10000 in
theorem u46n : Go B 1 (us 46 rg .nil it va ta re be dn op se ye) (us 47 rg .nil it va ta re be dn op se ye) := Go.one (by show (46 : Nat) ≠ 104; decide) ((show stepP univL (us 46 rg .nil it va ta re be dn op se ye) = stepI ⟨5, 1, -2, 0, []⟩ (us 46 rg .nil it va ta re be dn op se ye) from rfl).trans ((stepI_5 _ rfl).trans (if_pos rfl)))
set_option maxRecDepth 10000 in
theorem u47 : Go B 1 (us 47 rg ar it va ta re be dn op se ye) (us 48 rg ar it (hdT va) ta re be dn op se ye) := Go.one (by show (47 : Nat) ≠ 104; decide) rfl
set_option maxRecDepth 10000 in
theorem u48 : Go B 1 (us 48 rg ar it va ta re be dn op se ye) (us 49 rg ar it (hdT va) ta re be dn op se ye) := Go.one (by show (48 : Nat) ≠ 104; decide) rfl
set_option maxRecDepth 10000 in
theorem u49y (h : ye ≠ .nil) : Go B 1 (us 49 rg ar it va ta re be dn op se ye) (us 86 rg ar it va ta re be dn op se ye) := Go.one (by show (49 : Nat) ≠ 104; decide) ((show stepP univL (us 49 rg ar it va ta re be dn op se ye) = stepI ⟨5, 10, 37, 0, []⟩ (us 49 rg ar it va ta re be dn op se ye) from rfl).trans ((stepI_5 _ rfl).trans (if_neg h)))
set_option maxRecDepth 10000 in
theorem u49n : Go B 1 (us 49 rg ar it va ta re be dn op se .nil) (us 50 rg ar it va ta re be dn op se .nil) := Go.one (by show (49 : Nat) ≠ 104; decide) ((show stepP univL (us 49 rg ar it va ta re be dn op se .nil) = stepI ⟨5, 10, 37, 0, []⟩ (us 49 rg ar it va ta re be dn op se .nil) from rfl).trans ((stepI_5 _ rfl).trans (if_pos rfl)))
set_option maxRecDepth 10000 in
theorem u50 : Go B 1 (us 50 rg ar it va ta re be dn op se ye) (us 51 rg ar it va ta re be dn (tlT op) se ye) := Go.one (by show (50 : Nat) ≠ 104; decide) rfl
set_option maxRecDepth 10000 in
theorem u51y (h : op ≠ .nil) : Go B 1 (us 51 rg ar it va ta re be dn op se ye) (us 60 rg ar it va ta re be dn op se ye) := Go.one (by show (51 : Nat) ≠ 104; decide) ((show stepP univL (us 51 rg ar it va ta re be dn op se ye) = stepI ⟨5, 8, 9, 0, []⟩ (us 51 rg ar it va ta re be dn op se ye) from rfl).trans ((stepI_5 _ rfl).trans (if_neg h)))
set_option maxRecDepth 10000 in
theorem u51n : Go B 1 (us 51 rg ar it va ta re be dn .nil se ye) (us 52 rg ar it va ta re be dn .nil se ye) := Go.one (by show (51 : Nat) ≠ 104; decide) ((show stepP univL (us 51 rg ar it va ta re be dn .nil se ye) = stepI ⟨5, 8, 9, 0, []⟩ (us 51 rg ar it va ta re be dn .nil se ye) from rfl).trans ((stepI_5 _ rfl).trans (if_pos rfl)))
set_option maxRecDepth 10000 in
theorem u52 : Go B 1 (us 52 rg ar it va ta re be dn op se ye) (us 53 rg ar it rg ta re be dn op se ye) := Go.one (by show (52 : Nat) ≠ 104; decide) rfl
set_option maxRecDepth 10000 in
theorem u53y (h : ye ≠ .nil) : Go B 1 (us 53 rg ar it va ta re be dn op se ye) (us 56 rg ar it va ta re be dn op se ye) := Go.one (by show (53 : Nat) ≠ 104; decide) ((show stepP univL (us 53 rg ar it va ta re be dn op se ye) = stepI ⟨5, 10, 3, 0, []⟩ (us 53 rg ar it va ta re be dn op se ye) from rfl).trans ((stepI_5 _ rfl).trans (if_neg h)))
set_option maxRecDepth 10000 in
theorem u53n : Go B 1 (us 53 rg ar it va ta re be dn op se .nil) (us 54 rg ar it va ta re be dn op se .nil) := Go.one (by show (53 : Nat) ≠ 104; decide) ((show stepP univL (us 53 rg ar it va ta re be dn op se .nil) = stepI ⟨5, 10, 3, 0, []⟩ (us 53 rg ar it va ta re be dn op se .nil) from rfl).trans ((stepI_5 _ rfl).trans (if_pos rfl)))
set_option maxRecDepth 10000 in
theorem u54 : Go B 1 (us 54 rg ar it va ta re be dn op se ye) (us 55 rg ar it (tlT va) ta re be dn op se ye) := Go.one (by show (54 : Nat) ≠ 104; decide) rfl
set_option maxRecDepth 10000 in
theorem u55 : Go B 1 (us 55 rg ar it va ta re be dn op se ye) (us 56 rg (tlT ar) it va ta re be dn op se ye) := Go.one (by show (55 : Nat) ≠ 104; decide) rfl
set_option maxRecDepth 10000 in
theorem u56y (h : ar ≠ .nil) : Go B 1 (us 56 rg ar it va ta re be dn op se ye) (us 54 rg ar it va ta re be dn op se ye) := Go.one (by show (56 : Nat) ≠ 104; decide) ((show stepP univL (us 56 rg ar it va ta re be dn op se ye) = stepI ⟨5, 1, -2, 0, []⟩ (us 56 rg ar it va ta re be dn op se ye) from rfl).trans ((stepI_5 _ rfl).trans (if_neg h)))
set_option maxRecDepth 10000 in
theorem u56n : Go B 1 (us 56 rg .nil it va ta re be dn op se ye) (us 57 rg .nil it va ta re be dn op se ye) := Go.one (by show (56 : Nat) ≠ 104; decide) ((show stepP univL (us 56 rg .nil it va ta re be dn op se ye) = stepI ⟨5, 1, -2, 0, []⟩ (us 56 rg .nil it va ta re be dn op se ye) from rfl).trans ((stepI_5 _ rfl).trans (if_pos rfl)))
set_option maxRecDepth 10000 in
theorem u57 : Go B 1 (us 57 rg ar it va ta re be dn op se ye) (us 58 rg ar it (hdT va) ta re be dn op se ye) := Go.one (by show (57 : Nat) ≠ 104; decide) rfl
set_option maxRecDepth 10000 in
theorem u58 : Go B 1 (us 58 rg ar it va ta re be dn op se ye) (us 59 rg ar it (tlT va) ta re be dn op se ye) := Go.one (by show (58 : Nat) ≠ 104; decide) rfl
set_option maxRecDepth 10000 in
theorem u59y (h : ye ≠ .nil) : Go B 1 (us 59 rg ar it va ta re be dn op se ye) (us 86 rg ar it va ta re be dn op se ye) := Go.one (by show (59 : Nat) ≠ 104; decide) ((show stepP univL (us 59 rg ar it va ta re be dn op se ye) = stepI ⟨5, 10, 27, 0, []⟩ (us 59 rg ar it va ta re be dn op se ye) from rfl).trans ((stepI_5 _ rfl).trans (if_neg h)))
set_option maxRecDepth 10000 in
theorem u59n : Go B 1 (us 59 rg ar it va ta re be dn op se .nil) (us 60 rg ar it va ta re be dn op se .nil) := Go.one (by show (59 : Nat) ≠ 104; decide) ((show stepP univL (us 59 rg ar it va ta re be dn op se .nil) = stepI ⟨5, 10, 27, 0, []⟩ (us 59 rg ar it va ta re be dn op se .nil) from rfl).trans ((stepI_5 _ rfl).trans (if_pos rfl)))
set_option maxRecDepth 10000 in
theorem u60 : Go B 1 (us 60 rg ar it va ta re be dn op se ye) (us 61 rg ar it va ta re be dn (tlT op) se ye) := Go.one (by show (60 : Nat) ≠ 104; decide) rfl
set_option maxRecDepth 10000 in
theorem u61 : Go B 1 (us 61 rg ar it va ta re be dn op se ye) (us 62 rg ar it rg ta re be dn op se ye) := Go.one (by show (61 : Nat) ≠ 104; decide) rfl
set_option maxRecDepth 10000 in
theorem u62y (h : ye ≠ .nil) : Go B 1 (us 62 rg ar it va ta re be dn op se ye) (us 65 rg ar it va ta re be dn op se ye) := Go.one (by show (62 : Nat) ≠ 104; decide) ((show stepP univL (us 62 rg ar it va ta re be dn op se ye) = stepI ⟨5, 10, 3, 0, []⟩ (us 62 rg ar it va ta re be dn op se ye) from rfl).trans ((stepI_5 _ rfl).trans (if_neg h)))
set_option maxRecDepth 10000 in
theorem u62n : Go B 1 (us 62 rg ar it va ta re be dn op se .nil) (us 63 rg ar it va ta re be dn op se .nil) := Go.one (by show (62 : Nat) ≠ 104; decide) ((show stepP univL (us 62 rg ar it va ta re be dn op se .nil) = stepI ⟨5, 10, 3, 0, []⟩ (us 62 rg ar it va ta re be dn op se .nil) from rfl).trans ((stepI_5 _ rfl).trans (if_pos rfl)))
set_option maxRecDepth 10000 in
theorem u63 : Go B 1 (us 63 rg ar it va ta re be dn op se ye) (us 64 rg ar it (tlT va) ta re be dn op se ye) := Go.one (by show (63 : Nat) ≠ 104; decide) rfl
set_option maxRecDepth 10000 in
theorem u64 : Go B 1 (us 64 rg ar it va ta re be dn op se ye) (us 65 rg ar it va (tlT ta) re be dn op se ye) := Go.one (by show (64 : Nat) ≠ 104; decide) rfl
set_option maxRecDepth 10000 in
theorem u65y (h : ta ≠ .nil) : Go B 1 (us 65 rg ar it va ta re be dn op se ye) (us 63 rg ar it va ta re be dn op se ye) := Go.one (by show (65 : Nat) ≠ 104; decide) ((show stepP univL (us 65 rg ar it va ta re be dn op se ye) = stepI ⟨5, 4, -2, 0, []⟩ (us 65 rg ar it va ta re be dn op se ye) from rfl).trans ((stepI_5 _ rfl).trans (if_neg h)))
set_option maxRecDepth 10000 in
theorem u65n : Go B 1 (us 65 rg ar it va .nil re be dn op se ye) (us 66 rg ar it va .nil re be dn op se ye) := Go.one (by show (65 : Nat) ≠ 104; decide) ((show stepP univL (us 65 rg ar it va .nil re be dn op se ye) = stepI ⟨5, 4, -2, 0, []⟩ (us 65 rg ar it va .nil re be dn op se ye) from rfl).trans ((stepI_5 _ rfl).trans (if_pos rfl)))
set_option maxRecDepth 10000 in
theorem u66 : Go B 1 (us 66 rg ar it va ta re be dn op se ye) (us 67 rg ar it (hdT va) ta re be dn op se ye) := Go.one (by show (66 : Nat) ≠ 104; decide) rfl
set_option maxRecDepth 10000 in
theorem u67y (h : va ≠ .nil) : Go B 1 (us 67 rg ar it va ta re be dn op se ye) (us 69 rg ar it va ta re be dn op se ye) := Go.one (by show (67 : Nat) ≠ 104; decide) ((show stepP univL (us 67 rg ar it va ta re be dn op se ye) = stepI ⟨5, 3, 2, 0, []⟩ (us 67 rg ar it va ta re be dn op se ye) from rfl).trans ((stepI_5 _ rfl).trans (if_neg h)))
set_option maxRecDepth 10000 in
theorem u67n : Go B 1 (us 67 rg ar it .nil ta re be dn op se ye) (us 68 rg ar it .nil ta re be dn op se ye) := Go.one (by show (67 : Nat) ≠ 104; decide) ((show stepP univL (us 67 rg ar it .nil ta re be dn op se ye) = stepI ⟨5, 3, 2, 0, []⟩ (us 67 rg ar it .nil ta re be dn op se ye) from rfl).trans ((stepI_5 _ rfl).trans (if_pos rfl)))
set_option maxRecDepth 10000 in
theorem u68y (h : ye ≠ .nil) : Go B 1 (us 68 rg ar it va ta re be dn op se ye) (us 99 rg ar it va ta re be dn op se ye) := Go.one (by show (68 : Nat) ≠ 104; decide) ((show stepP univL (us 68 rg ar it va ta re be dn op se ye) = stepI ⟨5, 10, 31, 0, []⟩ (us 68 rg ar it va ta re be dn op se ye) from rfl).trans ((stepI_5 _ rfl).trans (if_neg h)))
set_option maxRecDepth 10000 in
theorem u68n : Go B 1 (us 68 rg ar it va ta re be dn op se .nil) (us 69 rg ar it va ta re be dn op se .nil) := Go.one (by show (68 : Nat) ≠ 104; decide) ((show stepP univL (us 68 rg ar it va ta re be dn op se .nil) = stepI ⟨5, 10, 31, 0, []⟩ (us 68 rg ar it va ta re be dn op se .nil) from rfl).trans ((stepI_5 _ rfl).trans (if_pos rfl)))
set_option maxRecDepth 10000 in
theorem u69 : Go B 1 (us 69 rg ar it va ta re be dn op se ye) (us 70 rg ar it (hdT ar) ta re be dn op se ye) := Go.one (by show (69 : Nat) ≠ 104; decide) rfl
set_option maxRecDepth 10000 in
theorem u70 : Go B 1 (us 70 rg ar it va ta re be dn op se ye) (us 71 rg (tlT ar) it va ta re be dn op se ye) := Go.one (by show (70 : Nat) ≠ 104; decide) rfl
set_option maxRecDepth 10000 in
theorem u71y (h : va ≠ .nil) : Go B 1 (us 71 rg ar it va ta re be dn op se ye) (us 79 rg ar it va ta re be dn op se ye) := Go.one (by show (71 : Nat) ≠ 104; decide) ((show stepP univL (us 71 rg ar it va ta re be dn op se ye) = stepI ⟨5, 3, 8, 0, []⟩ (us 71 rg ar it va ta re be dn op se ye) from rfl).trans ((stepI_5 _ rfl).trans (if_neg h)))
set_option maxRecDepth 10000 in
theorem u71n : Go B 1 (us 71 rg ar it .nil ta re be dn op se ye) (us 72 rg ar it .nil ta re be dn op se ye) := Go.one (by show (71 : Nat) ≠ 104; decide) ((show stepP univL (us 71 rg ar it .nil ta re be dn op se ye) = stepI ⟨5, 3, 8, 0, []⟩ (us 71 rg ar it .nil ta re be dn op se ye) from rfl).trans ((stepI_5 _ rfl).trans (if_pos rfl)))
set_option maxRecDepth 10000 in
theorem u72y (h : ye ≠ .nil) : Go B 1 (us 72 rg ar it va ta re be dn op se ye) (us 77 rg ar it va ta re be dn op se ye) := Go.one (by show (72 : Nat) ≠ 104; decide) ((show stepP univL (us 72 rg ar it va ta re be dn op se ye) = stepI ⟨5, 10, 5, 0, []⟩ (us 72 rg ar it va ta re be dn op se ye) from rfl).trans ((stepI_5 _ rfl).trans (if_neg h)))
set_option maxRecDepth 10000 in
theorem u72n : Go B 1 (us 72 rg ar it va ta re be dn op se .nil) (us 73 rg ar it va ta re be dn op se .nil) := Go.one (by show (72 : Nat) ≠ 104; decide) ((show stepP univL (us 72 rg ar it va ta re be dn op se .nil) = stepI ⟨5, 10, 5, 0, []⟩ (us 72 rg ar it va ta re be dn op se .nil) from rfl).trans ((stepI_5 _ rfl).trans (if_pos rfl)))
set_option maxRecDepth 10000 in
theorem u73 : Go B 1 (us 73 rg ar it va ta re be dn op se ye) (us 74 rg (tlT ar) it va ta re be dn op se ye) := Go.one (by show (73 : Nat) ≠ 104; decide) rfl
set_option maxRecDepth 10000 in
theorem u74 : Go B 1 (us 74 rg ar it va ta re be dn op se ye) (us 75 rg ar (hdT re) va ta re be dn op se ye) := Go.one (by show (74 : Nat) ≠ 104; decide) rfl
set_option maxRecDepth 10000 in
theorem u75 (h : ¬ B → (tx (.pair it dn)).length ≤ 2000000) : Go B 1 (us 75 rg ar it va ta re be dn op se ye) (us 76 rg ar it va ta re be (.pair it dn) op se ye) := Go.cons (z := .pair it dn) (by show (75 : Nat) ≠ 104; decide) rfl h
set_option maxRecDepth 10000 in
theorem u76 : Go B 1 (us 76 rg ar it va ta re be dn op se ye) (us 77 rg ar it va ta (tlT re) be dn op se ye) := Go.one (by show (76 : Nat) ≠ 104; decide) rfl
set_option maxRecDepth 10000 in
theorem u77y (h : ar ≠ .nil) : Go B 1 (us 77 rg ar it va ta re be dn op se ye) (us 73 rg ar it va ta re be dn op se ye) := Go.one (by show (77 : Nat) ≠ 104; decide) ((show stepP univL (us 77 rg ar it va ta re be dn op se ye) = stepI ⟨5, 1, -4, 0, []⟩ (us 77 rg ar it va ta re be dn op se ye) from rfl).trans ((stepI_5 _ rfl).trans (if_neg h)))
set_option maxRecDepth 10000 in
theorem u77n : Go B 1 (us 77 rg .nil it va ta re be dn op se ye) (us 78 rg .nil it va ta re be dn op se ye) := Go.one (by show (77 : Nat) ≠ 104; decide) ((show stepP univL (us 77 rg .nil it va ta re be dn op se ye) = stepI ⟨5, 1, -4, 0, []⟩ (us 77 rg .nil it va ta re be dn op se ye) from rfl).trans ((stepI_5 _ rfl).trans (if_pos rfl)))
set_option maxRecDepth 10000 in
theorem u78y (h : ye ≠ .nil) : Go B 1 (us 78 rg ar it va ta re be dn op se ye) (us 102 rg ar it va ta re be dn op se ye) := Go.one (by show (78 : Nat) ≠ 104; decide) ((show stepP univL (us 78 rg ar it va ta re be dn op se ye) = stepI ⟨5, 10, 24, 0, []⟩ (us 78 rg ar it va ta re be dn op se ye) from rfl).trans ((stepI_5 _ rfl).trans (if_neg h)))
set_option maxRecDepth 10000 in
theorem u78n : Go B 1 (us 78 rg ar it va ta re be dn op se .nil) (us 79 rg ar it va ta re be dn op se .nil) := Go.one (by show (78 : Nat) ≠ 104; decide) ((show stepP univL (us 78 rg ar it va ta re be dn op se .nil) = stepI ⟨5, 10, 24, 0, []⟩ (us 78 rg ar it va ta re be dn op se .nil) from rfl).trans ((stepI_5 _ rfl).trans (if_pos rfl)))
set_option maxRecDepth 10000 in
theorem u79y (h : ye ≠ .nil) : Go B 1 (us 79 rg ar it va ta re be dn op se ye) (us 84 rg ar it va ta re be dn op se ye) := Go.one (by show (79 : Nat) ≠ 104; decide) ((show stepP univL (us 79 rg ar it va ta re be dn op se ye) = stepI ⟨5, 10, 5, 0, []⟩ (us 79 rg ar it va ta re be dn op se ye) from rfl).trans ((stepI_5 _ rfl).trans (if_neg h)))
set_option maxRecDepth 10000 in
theorem u79n : Go B 1 (us 79 rg ar it va ta re be dn op se .nil) (us 80 rg ar it va ta re be dn op se .nil) := Go.one (by show (79 : Nat) ≠ 104; decide) ((show stepP univL (us 79 rg ar it va ta re be dn op se .nil) = stepI ⟨5, 10, 5, 0, []⟩ (us 79 rg ar it va ta re be dn op se .nil) from rfl).trans ((stepI_5 _ rfl).trans (if_pos rfl)))
set_option maxRecDepth 10000 in
theorem u80 : Go B 1 (us 80 rg ar it va ta re be dn op se ye) (us 81 rg (tlT ar) it va ta re be dn op se ye) := Go.one (by show (80 : Nat) ≠ 104; decide) rfl
set_option maxRecDepth 10000 in
theorem u81 : Go B 1 (us 81 rg ar it va ta re be dn op se ye) (us 82 rg ar (hdT dn) va ta re be dn op se ye) := Go.one (by show (81 : Nat) ≠ 104; decide) rfl
set_option maxRecDepth 10000 in
theorem u82 (h : ¬ B → (tx (.pair it re)).length ≤ 2000000) : Go B 1 (us 82 rg ar it va ta re be dn op se ye) (us 83 rg ar it va ta (.pair it re) be dn op se ye) := Go.cons (z := .pair it re) (by show (82 : Nat) ≠ 104; decide) rfl h
set_option maxRecDepth 10000 in
theorem u83 : Go B 1 (us 83 rg ar it va ta re be dn op se ye) (us 84 rg ar it va ta re be (tlT dn) op se ye) := Go.one (by show (83 : Nat) ≠ 104; decide) rfl
set_option maxRecDepth 10000 in
theorem u84y (h : ar ≠ .nil) : Go B 1 (us 84 rg ar it va ta re be dn op se ye) (us 80 rg ar it va ta re be dn op se ye) := Go.one (by show (84 : Nat) ≠ 104; decide) ((show stepP univL (us 84 rg ar it va ta re be dn op se ye) = stepI ⟨5, 1, -4, 0, []⟩ (us 84 rg ar it va ta re be dn op se ye) from rfl).trans ((stepI_5 _ rfl).trans (if_neg h)))
set_option maxRecDepth 10000 in
theorem u84n : Go B 1 (us 84 rg .nil it va ta re be dn op se ye) (us 85 rg .nil it va ta re be dn op se ye) := Go.one (by show (84 : Nat) ≠ 104; decide) ((show stepP univL (us 84 rg .nil it va ta re be dn op se ye) = stepI ⟨5, 1, -4, 0, []⟩ (us 84 rg .nil it va ta re be dn op se ye) from rfl).trans ((stepI_5 _ rfl).trans (if_pos rfl)))
set_option maxRecDepth 10000 in
theorem u85y (h : ye ≠ .nil) : Go B 1 (us 85 rg ar it va ta re be dn op se ye) (us 102 rg ar it va ta re be dn op se ye) := Go.one (by show (85 : Nat) ≠ 104; decide) ((show stepP univL (us 85 rg ar it va ta re be dn op se ye) = stepI ⟨5, 10, 17, 0, []⟩ (us 85 rg ar it va ta re be dn op se ye) from rfl).trans ((stepI_5 _ rfl).trans (if_neg h)))
set_option maxRecDepth 10000 in
theorem u85n : Go B 1 (us 85 rg ar it va ta re be dn op se .nil) (us 86 rg ar it va ta re be dn op se .nil) := Go.one (by show (85 : Nat) ≠ 104; decide) ((show stepP univL (us 85 rg ar it va ta re be dn op se .nil) = stepI ⟨5, 10, 17, 0, []⟩ (us 85 rg ar it va ta re be dn op se .nil) from rfl).trans ((stepI_5 _ rfl).trans (if_pos rfl)))
set_option maxRecDepth 10000 in
theorem u86y (h : ye ≠ .nil) : Go B 1 (us 86 rg ar it va ta re be dn op se ye) (us 91 rg ar it va ta re be dn op se ye) := Go.one (by show (86 : Nat) ≠ 104; decide) ((show stepP univL (us 86 rg ar it va ta re be dn op se ye) = stepI ⟨5, 10, 5, 0, []⟩ (us 86 rg ar it va ta re be dn op se ye) from rfl).trans ((stepI_5 _ rfl).trans (if_neg h)))
set_option maxRecDepth 10000 in
theorem u86n : Go B 1 (us 86 rg ar it va ta re be dn op se .nil) (us 87 rg ar it va ta re be dn op se .nil) := Go.one (by show (86 : Nat) ≠ 104; decide) ((show stepP univL (us 86 rg ar it va ta re be dn op se .nil) = stepI ⟨5, 10, 5, 0, []⟩ (us 86 rg ar it va ta re be dn op se .nil) from rfl).trans ((stepI_5 _ rfl).trans (if_pos rfl)))
set_option maxRecDepth 10000 in
theorem u87 : Go B 1 (us 87 rg ar it va ta re be dn op se ye) (us 88 rg ar it va (tlT ta) re be dn op se ye) := Go.one (by show (87 : Nat) ≠ 104; decide) rfl
set_option maxRecDepth 10000 in
theorem u88 : Go B 1 (us 88 rg ar it va ta re be dn op se ye) (us 89 rg ar (hdT rg) va ta re be dn op se ye) := Go.one (by show (88 : Nat) ≠ 104; decide) rfl
set_option maxRecDepth 10000 in
theorem u89 (h : ¬ B → (tx (.pair it be)).length ≤ 2000000) : Go B 1 (us 89 rg ar it va ta re be dn op se ye) (us 90 rg ar it va ta re (.pair it be) dn op se ye) := Go.cons (z := .pair it be) (by show (89 : Nat) ≠ 104; decide) rfl h
set_option maxRecDepth 10000 in
theorem u90 : Go B 1 (us 90 rg ar it va ta re be dn op se ye) (us 91 (tlT rg) ar it va ta re be dn op se ye) := Go.one (by show (90 : Nat) ≠ 104; decide) rfl
set_option maxRecDepth 10000 in
theorem u91y (h : ta ≠ .nil) : Go B 1 (us 91 rg ar it va ta re be dn op se ye) (us 87 rg ar it va ta re be dn op se ye) := Go.one (by show (91 : Nat) ≠ 104; decide) ((show stepP univL (us 91 rg ar it va ta re be dn op se ye) = stepI ⟨5, 4, -4, 0, []⟩ (us 91 rg ar it va ta re be dn op se ye) from rfl).trans ((stepI_5 _ rfl).trans (if_neg h)))
set_option maxRecDepth 10000 in
theorem u91n : Go B 1 (us 91 rg ar it va .nil re be dn op se ye) (us 92 rg ar it va .nil re be dn op se ye) := Go.one (by show (91 : Nat) ≠ 104; decide) ((show stepP univL (us 91 rg ar it va .nil re be dn op se ye) = stepI ⟨5, 4, -4, 0, []⟩ (us 91 rg ar it va .nil re be dn op se ye) from rfl).trans ((stepI_5 _ rfl).trans (if_pos rfl)))
set_option maxRecDepth 10000 in
theorem u92 : Go B 1 (us 92 rg ar it va ta re be dn op se ye) (us 93 (tlT rg) ar it va ta re be dn op se ye) := Go.one (by show (92 : Nat) ≠ 104; decide) rfl
set_option maxRecDepth 10000 in
theorem u93 (h : ¬ B → (tx (.pair va rg)).length ≤ 2000000) : Go B 1 (us 93 rg ar it va ta re be dn op se ye) (us 94 (.pair va rg) ar it va ta re be dn op se ye) := Go.cons (z := .pair va rg) (by show (93 : Nat) ≠ 104; decide) rfl h
set_option maxRecDepth 10000 in
theorem u94y (h : ye ≠ .nil) : Go B 1 (us 94 rg ar it va ta re be dn op se ye) (us 98 rg ar it va ta re be dn op se ye) := Go.one (by show (94 : Nat) ≠ 104; decide) ((show stepP univL (us 94 rg ar it va ta re be dn op se ye) = stepI ⟨5, 10, 4, 0, []⟩ (us 94 rg ar it va ta re be dn op se ye) from rfl).trans ((stepI_5 _ rfl).trans (if_neg h)))
set_option maxRecDepth 10000 in
theorem u94n : Go B 1 (us 94 rg ar it va ta re be dn op se .nil) (us 95 rg ar it va ta re be dn op se .nil) := Go.one (by show (94 : Nat) ≠ 104; decide) ((show stepP univL (us 94 rg ar it va ta re be dn op se .nil) = stepI ⟨5, 10, 4, 0, []⟩ (us 94 rg ar it va ta re be dn op se .nil) from rfl).trans ((stepI_5 _ rfl).trans (if_pos rfl)))
set_option maxRecDepth 10000 in
theorem u95 : Go B 1 (us 95 rg ar it va ta re be dn op se ye) (us 96 rg ar (hdT be) va ta re be dn op se ye) := Go.one (by show (95 : Nat) ≠ 104; decide) rfl
set_option maxRecDepth 10000 in
theorem u96 (h : ¬ B → (tx (.pair it rg)).length ≤ 2000000) : Go B 1 (us 96 rg ar it va ta re be dn op se ye) (us 97 (.pair it rg) ar it va ta re be dn op se ye) := Go.cons (z := .pair it rg) (by show (96 : Nat) ≠ 104; decide) rfl h
set_option maxRecDepth 10000 in
theorem u97 : Go B 1 (us 97 rg ar it va ta re be dn op se ye) (us 98 rg ar it va ta re (tlT be) dn op se ye) := Go.one (by show (97 : Nat) ≠ 104; decide) rfl
set_option maxRecDepth 10000 in
theorem u98y (h : be ≠ .nil) : Go B 1 (us 98 rg ar it va ta re be dn op se ye) (us 95 rg ar it va ta re be dn op se ye) := Go.one (by show (98 : Nat) ≠ 104; decide) ((show stepP univL (us 98 rg ar it va ta re be dn op se ye) = stepI ⟨5, 6, -3, 0, []⟩ (us 98 rg ar it va ta re be dn op se ye) from rfl).trans ((stepI_5 _ rfl).trans (if_neg h)))
set_option maxRecDepth 10000 in
theorem u98n : Go B 1 (us 98 rg ar it va ta re .nil dn op se ye) (us 99 rg ar it va ta re .nil dn op se ye) := Go.one (by show (98 : Nat) ≠ 104; decide) ((show stepP univL (us 98 rg ar it va ta re .nil dn op se ye) = stepI ⟨5, 6, -3, 0, []⟩ (us 98 rg ar it va ta re .nil dn op se ye) from rfl).trans ((stepI_5 _ rfl).trans (if_pos rfl)))
set_option maxRecDepth 10000 in
theorem u99 : Go B 1 (us 99 rg ar it va ta re be dn op se ye) (us 100 rg ar (hdT re) va ta re be dn op se ye) := Go.one (by show (99 : Nat) ≠ 104; decide) rfl
set_option maxRecDepth 10000 in
theorem u100 (h : ¬ B → (tx (.pair it dn)).length ≤ 2000000) : Go B 1 (us 100 rg ar it va ta re be dn op se ye) (us 101 rg ar it va ta re be (.pair it dn) op se ye) := Go.cons (z := .pair it dn) (by show (100 : Nat) ≠ 104; decide) rfl h
set_option maxRecDepth 10000 in
theorem u101 : Go B 1 (us 101 rg ar it va ta re be dn op se ye) (us 102 rg ar it va ta (tlT re) be dn op se ye) := Go.one (by show (101 : Nat) ≠ 104; decide) rfl
set_option maxRecDepth 10000 in
theorem u102y (h : re ≠ .nil) : Go B 1 (us 102 rg ar it va ta re be dn op se ye) (us 5 rg ar it va ta re be dn op se ye) := Go.one (by show (102 : Nat) ≠ 104; decide) ((show stepP univL (us 102 rg ar it va ta re be dn op se ye) = stepI ⟨5, 5, -97, 0, []⟩ (us 102 rg ar it va ta re be dn op se ye) from rfl).trans ((stepI_5 _ rfl).trans (if_neg h)))
set_option maxRecDepth 10000 in
theorem u102n : Go B 1 (us 102 rg ar it va ta .nil be dn op se ye) (us 103 rg ar it va ta .nil be dn op se ye) := Go.one (by show (102 : Nat) ≠ 104; decide) ((show stepP univL (us 102 rg ar it va ta .nil be dn op se ye) = stepI ⟨5, 5, -97, 0, []⟩ (us 102 rg ar it va ta .nil be dn op se ye) from rfl).trans ((stepI_5 _ rfl).trans (if_pos rfl)))
set_option maxRecDepth 10000 in
theorem u103 : Go B 1 (us 103 rg ar it va ta re be dn op se ye) (us 104 (hdT rg) ar it va ta re be dn op se ye) := Go.one (by show (103 : Nat) ≠ 104; decide) rfl
end
/-- a number, a list, as trees -/
def numT : Nat → Tr | 0 => .nil | n + 1 => .pair .nil (numT n)
def lst : List Tr → Tr | [] => .nil | a :: l => .pair a (lst l)
def tlN : Nat → Tr → Tr | 0, v => v | n + 1, v => tlN n (tlT v)
theorem hd_tlN : ∀ (k : Nat) (l : List Tr), hdT (tlN k (lst l)) = l.getD k .nil
  | 0, [] => rfl
  | 0, a :: l => rfl
  | k + 1, [] => by
    show hdT (tlN k (lst [])) = _
    rw [hd_tlN k []]; simp
  | k + 1, a :: l => by
    show hdT (tlN k (lst l)) = _
    rw [hd_tlN k l]; simp
theorem numT_ne (n : Nat) : numT (n + 1) ≠ .nil := fun h => Tr.noConfusion h
section
variable {B : Prop} {rg ar it va ta re be dn op se ye : Tr}
theorem loop17 : ∀ (n : Nat) {va : Tr}, Go B (3 * n + 1) (us 19 rg (numT n) it va ta re be dn op se ye) (us 20 rg .nil it (tlN n va) ta re be dn op se ye)
  | 0, _ => u19n
  | n + 1, _ => Go.cast ((u19y (numT_ne n)).trans (u17.trans (u18.trans (loop17 n)))) (by omega)
theorem loop27 : ∀ (n : Nat) {va : Tr}, Go B (3 * n + 1) (us 29 rg ar it va ta re be dn op (numT n) ye) (us 30 rg ar it (tlN n va) ta re be dn op .nil ye)
  | 0, _ => u29n
  | n + 1, _ => Go.cast ((u29y (numT_ne n)).trans (u27.trans (u28.trans (loop27 n)))) (by omega)
theorem loop34 : ∀ (n : Nat) {se : Tr}, Go B (3 * n + 1) (us 36 rg (numT n) it va ta re be dn op se ye) (us 37 rg .nil it va ta re be dn op (tlN n se) ye)
  | 0, _ => u36n
  | n + 1, _ => Go.cast ((u36y (numT_ne n)).trans (u34.trans (u35.trans (loop34 n)))) (by omega)
theorem loop44 : ∀ (n : Nat) {va : Tr}, Go B (3 * n + 1) (us 46 rg (numT n) it va ta re be dn op se ye) (us 47 rg .nil it (tlN n va) ta re be dn op se ye)
  | 0, _ => u46n
  | n + 1, _ => Go.cast ((u46y (numT_ne n)).trans (u44.trans (u45.trans (loop44 n)))) (by omega)
theorem loop54 : ∀ (n : Nat) {va : Tr}, Go B (3 * n + 1) (us 56 rg (numT n) it va ta re be dn op se ye) (us 57 rg .nil it (tlN n va) ta re be dn op se ye)
  | 0, _ => u56n
  | n + 1, _ => Go.cast ((u56y (numT_ne n)).trans (u54.trans (u55.trans (loop54 n)))) (by omega)
theorem loop63 : ∀ (n : Nat) {va : Tr}, Go B (3 * n + 1) (us 65 rg ar it va (numT n) re be dn op se ye) (us 66 rg ar it (tlN n va) .nil re be dn op se ye)
  | 0, _ => u65n
  | n + 1, _ => Go.cast ((u65y (numT_ne n)).trans (u63.trans (u64.trans (loop63 n)))) (by omega)
theorem fetch {o a y r : Tr} : Go B 5 (us 5 rg ar it va ta (.pair (.pair o (.pair a y)) r) be dn op se ye) (us 10 rg y (.pair o (.pair a y)) va a (.pair (.pair o (.pair a y)) r) be dn o se ye) := by
  have h : Go B _ (us 5 rg ar it va ta (.pair (.pair o (.pair a y)) r) be dn op se ye) _ := (u5).trans ((u6).trans ((u7).trans ((u8).trans (u9))))
  exact h.cast (by omega)
theorem oper0 (hy : ye ≠ .nil) : Go B 3 (us 10 rg ar it va ta re be dn .nil se ye) (us 86 rg ar it ar ta re be dn .nil se ye) := by
  have h : Go B _ (us 10 rg ar it va ta re be dn .nil se ye) _ := (u10n).trans ((u11).trans (u12y hy))
  exact h.cast (by omega)
theorem oper1 (n : Nat) (l : List Tr) (hy : ye ≠ .nil) : Go B (3 * n + 8) (us 10 (lst l) (numT n) it va ta re be dn (.pair .nil .nil) se ye) (us 86 (lst l) .nil it (l.getD n .nil) ta re be dn .nil se ye) := by
  have h : Go B _ (us 10 (lst l) (numT n) it va ta re be dn (.pair .nil .nil) se ye) _ := (u10y (fun h => Tr.noConfusion h)).trans ((u13).trans ((u14n).trans ((u15).trans ((u16y hy).trans ((loop17 n).trans ((u20).trans (u21y hy)))))))
  simp only [hd_tlN] at h
  exact h.cast (by omega)
theorem oper2 (m n : Nat) (l : List Tr) (hy : ye ≠ .nil) (hz : ¬ B → (tx (.pair (l.getD m .nil) (l.getD n .nil))).length ≤ 2000000) : Go B (3 * m + 3 * n + 17) (us 10 (lst l) (.pair (numT m) (numT n)) it va ta re be dn (.pair .nil (.pair .nil .nil)) se ye) (us 86 (lst l) .nil it (.pair (l.getD m .nil) (l.getD n .nil)) ta re be dn .nil (l.getD n .nil) ye) := by
  have h : Go B _ (us 10 (lst l) (.pair (numT m) (numT n)) it va ta re be dn (.pair .nil (.pair .nil .nil)) se ye) _ := (u10y (fun h => Tr.noConfusion h)).trans ((u13).trans ((u14y (fun h => Tr.noConfusion h)).trans ((u22).trans ((u23n).trans ((u24).trans ((u25).trans ((u26y hy).trans ((loop27 m).trans ((u30).trans ((u31).trans ((u32).trans ((u33y hy).trans ((loop34 n).trans ((u37).trans ((u38 (by rw [hd_tlN, hd_tlN]; exact hz)).trans (u39y hy))))))))))))))))
  simp only [hd_tlN] at h
  exact h.cast (by omega)
theorem oper3 (n : Nat) (l : List Tr) (hy : ye ≠ .nil) : Go B (3 * n + 13) (us 10 (lst l) (numT n) it va ta re be dn (.pair .nil (.pair .nil (.pair .nil .nil))) se ye) (us 86 (lst l) .nil it (hdT (l.getD n .nil)) ta re be dn .nil se ye) := by
  have h : Go B _ (us 10 (lst l) (numT n) it va ta re be dn (.pair .nil (.pair .nil (.pair .nil .nil))) se ye) _ := (u10y (fun h => Tr.noConfusion h)).trans ((u13).trans ((u14y (fun h => Tr.noConfusion h)).trans ((u22).trans ((u23y (fun h => Tr.noConfusion h)).trans ((u40).trans ((u41n).trans ((u42).trans ((u43y hy).trans ((loop44 n).trans ((u47).trans ((u48).trans (u49y hy))))))))))))
  simp only [hd_tlN] at h
  exact h.cast (by omega)
theorem oper4 (n : Nat) (l : List Tr) (hy : ye ≠ .nil) : Go B (3 * n + 15) (us 10 (lst l) (numT n) it va ta re be dn (.pair .nil (.pair .nil (.pair .nil (.pair .nil .nil)))) se ye) (us 86 (lst l) .nil it (tlT (l.getD n .nil)) ta re be dn .nil se ye) := by
  have h : Go B _ (us 10 (lst l) (numT n) it va ta re be dn (.pair .nil (.pair .nil (.pair .nil (.pair .nil .nil)))) se ye) _ := (u10y (fun h => Tr.noConfusion h)).trans ((u13).trans ((u14y (fun h => Tr.noConfusion h)).trans ((u22).trans ((u23y (fun h => Tr.noConfusion h)).trans ((u40).trans ((u41y (fun h => Tr.noConfusion h)).trans ((u50).trans ((u51n).trans ((u52).trans ((u53y hy).trans ((loop54 n).trans ((u57).trans ((u58).trans (u59y hy))))))))))))))
  simp only [hd_tlN] at h
  exact h.cast (by omega)
theorem oper5 (n : Nat) (l : List Tr) (hy : ye ≠ .nil) : Go B (3 * n + 14) (us 10 (lst l) ar it va (numT n) re be dn (.pair .nil (.pair .nil (.pair .nil (.pair .nil (.pair .nil .nil))))) se ye) (us 67 (lst l) ar it (l.getD n .nil) .nil re be dn .nil se ye) := by
  have h : Go B _ (us 10 (lst l) ar it va (numT n) re be dn (.pair .nil (.pair .nil (.pair .nil (.pair .nil (.pair .nil .nil))))) se ye) _ := (u10y (fun h => Tr.noConfusion h)).trans ((u13).trans ((u14y (fun h => Tr.noConfusion h)).trans ((u22).trans ((u23y (fun h => Tr.noConfusion h)).trans ((u40).trans ((u41y (fun h => Tr.noConfusion h)).trans ((u50).trans ((u51y (fun h => Tr.noConfusion h)).trans ((u60).trans ((u61).trans ((u62y hy).trans ((loop63 n).trans (u66)))))))))))))
  simp only [hd_tlN] at h
  exact h.cast (by omega)
end
theorem tx_lst_cons (a : Tr) (l : List Tr) : (tx (lst (a :: l))).length = 1 + (tx a).length + (tx (lst l)).length := tx_pair _ _
theorem hd_lst (l : List Tr) : hdT (lst l) = l.headD .nil := by cases l <;> rfl
theorem tl_lst (l : List Tr) : tlT (lst l) = lst l.tail := by cases l <;> rfl
theorem lst_ne {a : Tr} {l : List Tr} : lst (a :: l) ≠ .nil := fun h => Tr.noConfusion h
/-- what is set aside: the first n of l, the last one first, before bf -/
def rv : Nat → List Tr → List Tr → List Tr
  | 0, _, bf => bf
  | n + 1, l, bf => rv n l.tail (l.headD .nil :: bf)
section
variable {B : Prop} {rg ar it va ta re be dn op se ye : Tr}
theorem loopS : ∀ (n : Nat) (l bf : List Tr) {it : Tr}, (¬ B → (tx (lst l)).length + (tx (lst bf)).length + 2 * n ≤ 2000000) → ∃ it', Go B (5 * n + 1) (us 91 (lst l) ar it va (numT n) re (lst bf) dn op se ye) (us 92 (lst (l.drop n)) ar it' va .nil re (lst (rv n l bf)) dn op se ye)
  | 0, l, bf, it, _ => ⟨it, by rw [List.drop_zero]; exact u91n⟩
  | n + 1, l, bf, it, h => by
    have hz : ¬ B → (tx (lst l.tail)).length + (tx (lst (l.headD .nil :: bf))).length + 2 * n ≤ 2000000 := fun hb => by
      have h1 := h hb
      rw [tx_lst_cons]
      cases l with
      | nil => simp [lst, tx] at h1 ⊢; omega
      | cons a l => rw [tx_lst_cons] at h1; simp only [List.tail_cons, List.headD_cons]; omega
    obtain ⟨it', k⟩ := loopS n l.tail (l.headD .nil :: bf) (it := l.headD .nil) hz
    refine ⟨it', ?_⟩
    have k1 : Go B _ (us 91 (lst l) ar it va (numT (n + 1)) re (lst bf) dn op se ye) _ := (u91y (numT_ne n)).trans (u87.trans u88)
    rw [hd_lst] at k1
    have k2 := k1.trans (u89 (fun hb => by
      have h1 := hz hb
      rw [tx_lst_cons] at h1; rw [tx_pair]; omega))
    have k3 := k2.trans u90
    rw [tl_lst] at k3
    have k4 := k3.trans k
    rw [show l.tail.drop n = l.drop (n + 1) from by cases l <;> simp] at k4
    exact k4.cast (by omega)
theorem loopB : ∀ (bf r : List Tr) {it : Tr}, (¬ B → (tx (lst bf)).length + (tx (lst r)).length ≤ 2000001) → ∃ it', Go B (4 * bf.length + 1) (us 98 (lst r) ar it va ta re (lst bf) dn op se ye) (us 99 (lst (bf.reverse ++ r)) ar it' va ta re .nil dn op se ye)
  | [], r, it, _ => ⟨it, u98n⟩
  | x :: bf, r, it, h => by
    have hz : ¬ B → (tx (lst bf)).length + (tx (lst (x :: r))).length ≤ 2000001 := fun hb => by
      have h1 := h hb
      rw [tx_lst_cons] at h1 ⊢; omega
    obtain ⟨it', k⟩ := loopB bf (x :: r) (it := x) hz
    refine ⟨it', ?_⟩
    have k1 : Go B _ (us 98 (lst r) ar it va ta re (lst (x :: bf)) dn op se ye) _ := (u98y lst_ne).trans u95
    have k2 := k1.trans (u96 (fun hb => by
      have h1 := hz hb; have h2 := tx_pos (lst bf)
      rw [tx_lst_cons] at h1; rw [tx_pair]; show 1 + (tx x).length + _ ≤ _; omega))
    have k3 : Go B _ _ (us 98 (lst (x :: r)) ar x va ta re (lst bf) dn op se ye) := k2.trans u97
    have k4 := k3.trans k
    rw [show bf.reverse ++ x :: r = (x :: bf).reverse ++ r from by simp] at k4
    exact k4.cast (by simp only [List.length_cons]; omega)
theorem loopF : ∀ (a b c : List Tr) {it : Tr}, (¬ B → (tx (lst (a ++ b))).length + (tx (lst c)).length ≤ 2000001) → ∃ it', Go B (5 * a.length + 1) (us 77 rg (numT a.length) it va ta (lst (a ++ b)) be (lst c) op se ye) (us 78 rg .nil it' va ta (lst b) be (lst (a.reverse ++ c)) op se ye)
  | [], b, c, it, _ => ⟨it, u77n⟩
  | x :: a, b, c, it, h => by
    have hz : ¬ B → (tx (lst (a ++ b))).length + (tx (lst (x :: c))).length ≤ 2000001 := fun hb => by
      have h1 := h hb
      rw [List.cons_append, tx_lst_cons] at h1; rw [tx_lst_cons]; omega
    obtain ⟨it', k⟩ := loopF a b (x :: c) (it := x) hz
    refine ⟨it', ?_⟩
    have k1 : Go B _ (us 77 rg (numT (a.length + 1)) it va ta (lst (x :: (a ++ b))) be (lst c) op se ye) _ := (u77y (numT_ne a.length)).trans (u73.trans u74)
    have k2 := k1.trans (u75 (fun hb => by
      have h1 := hz hb; have h2 := tx_pos (lst (a ++ b))
      rw [tx_lst_cons] at h1; rw [tx_pair]; show 1 + (tx x).length + _ ≤ _; omega))
    have k3 : Go B _ _ (us 77 rg (numT a.length) x va ta (lst (a ++ b)) be (lst (x :: c)) op se ye) := k2.trans u76
    have k4 := k3.trans k
    rw [show a.reverse ++ x :: c = (x :: a).reverse ++ c from by simp] at k4
    exact k4.cast (by simp only [List.length_cons]; omega)
theorem loopK : ∀ (a b c : List Tr) {it : Tr}, (¬ B → (tx (lst (a ++ b))).length + (tx (lst c)).length ≤ 2000001) → ∃ it', Go B (5 * a.length + 1) (us 84 rg (numT a.length) it va ta (lst c) be (lst (a ++ b)) op se ye) (us 85 rg .nil it' va ta (lst (a.reverse ++ c)) be (lst b) op se ye)
  | [], b, c, it, _ => ⟨it, u84n⟩
  | x :: a, b, c, it, h => by
    have hz : ¬ B → (tx (lst (a ++ b))).length + (tx (lst (x :: c))).length ≤ 2000001 := fun hb => by
      have h1 := h hb
      rw [List.cons_append, tx_lst_cons] at h1; rw [tx_lst_cons]; omega
    obtain ⟨it', k⟩ := loopK a b (x :: c) (it := x) hz
    refine ⟨it', ?_⟩
    have k1 : Go B _ (us 84 rg (numT (a.length + 1)) it va ta (lst c) be (lst (x :: (a ++ b))) op se ye) _ := (u84y (numT_ne a.length)).trans (u80.trans u81)
    have k2 := k1.trans (u82 (fun hb => by
      have h1 := hz hb; have h2 := tx_pos (lst (a ++ b))
      rw [tx_lst_cons] at h1; rw [tx_pair]; show 1 + (tx x).length + _ ≤ _; omega))
    have k3 : Go B _ _ (us 84 rg (numT a.length) x va ta (lst (x :: c)) be (lst (a ++ b)) op se ye) := k2.trans u83
    have k4 := k3.trans k
    rw [show a.reverse ++ x :: c = (x :: a).reverse ++ c from by simp] at k4
    exact k4.cast (by simp only [List.length_cons]; omega)
end
end Go.Proofs.YtmhoacnbmbhcjaaGreatDoor

namespace Go.Proofs.YtmhoacnbmbhcjaaGreatDoor
open Go.RowKit Pl

/-- the code of an instruction, of a program, as trees -/
noncomputable def payT (x : Ins) : Tr :=
  if x.op = 0 then rd x.tree
  else if x.op = 2 then .pair (numT x.b.toNat) (numT x.c.toNat)
  else if x.op = 5 then (if x.b < 0 then .pair (.pair .nil .nil) (numT (-x.b).toNat) else .pair .nil (numT x.b.toNat))
  else numT x.b.toNat
noncomputable def codeT (x : Ins) : Tr := .pair (numT x.op.toNat) (.pair (numT x.a.toNat) (payT x))
noncomputable def codeL (ps : List Ins) : List Tr := ps.map codeT
theorem tx_numT : ∀ n : Nat, tx (numT n) = num n
  | 0 => rfl
  | n + 1 => by rw [num_succ, ← tx_numT n]; rfl
theorem tx_codeT {x : Ins} {i n : Int} (h : right x i n = true) : tx (codeT x) = codeOf x := by
  have hr : ∀ a b, tx (.pair a b) = pr (tx a) (tx b) := fun a b => rfl
  unfold codeT codeOf payT body
  rw [hr, hr, tx_numT, tx_numT]
  by_cases h0 : x.op = 0
  · have hv : vld x.tree = true := by unfold right at h; simp [h0] at h; exact h.2.2
    simp only [if_pos h0]; rw [tx_rd hv]
  · by_cases h2 : x.op = 2
    · simp only [if_neg h0, if_pos h2]; rw [hr, tx_numT, tx_numT]
    · by_cases h5 : x.op = 5
      · simp only [if_neg h0, if_neg h2, if_pos h5]
        by_cases hb : x.b < 0
        · simp only [if_pos hb]; rw [hr, tx_numT]; rfl
        · simp only [if_neg hb]; rw [hr, tx_numT]; rfl
      · simp only [if_neg h0, if_neg h2, if_neg h5]; rw [tx_numT]
theorem tx_lst : ∀ l : List Tr, tx (lst l) = enc (l.map tx)
  | [] => rfl
  | a :: l => by
    show 49 :: (tx a ++ tx (lst l)) = _
    rw [tx_lst l]; rfl
theorem tx_code {ps : List Ins} (h : AllR ps) : tx (lst (codeL ps)) = enc (codes ps) := by
  rw [tx_lst]
  unfold codeL codes
  rw [List.map_map]
  congr 1
  refine List.map_congr_left fun x hx => ?_
  obtain ⟨k, hk⟩ := List.mem_iff_getElem?.1 hx
  exact tx_codeT (h k x hk)
/-- how many characters some trees have together -/
def totT (l : List Tr) : Nat := (l.map fun t => (tx t).length).sum
theorem lst_size (l : List Tr) : (tx (lst l)).length = 1 + l.length + totT l := by
  induction l with
  | nil => rfl
  | cons a l ih => rw [tx_lst_cons, ih]; simp [totT]; omega
theorem totT_take (l : List Tr) (k : Nat) : totT (l.take k) ≤ totT l := by
  have h : totT l = totT (l.take k) + totT (l.drop k) := by
    conv => lhs; rw [← List.take_append_drop k l]
    simp only [totT, List.map_append, List.sum_append]
  omega
theorem totT_mem {l : List Tr} {t : Tr} (h : t ∈ l) : (tx t).length ≤ totT l := by
  induction l with
  | nil => cases h
  | cons a l ih =>
    rcases List.mem_cons.1 h with rfl | h
    · simp [totT]
    · have := ih h; simp [totT] at this ⊢; omega
/-- the list of registers that stands for the registers of a state -/
def Regd (l : List Tr) (s : St) : Prop := l.length ≤ 32 ∧ ∀ r, l.getD r .nil = s.regs.getD r .nil
theorem Regd.take {l : List Tr} {s : St} (h : Regd l s) (h32 : s.regs.length = 32) : l = s.regs.take l.length := by
  refine List.ext_getElem? fun r => ?_
  have h1 := h.2 r
  by_cases hr : r < l.length
  · have h2 : r < s.regs.length := by have := h.1; omega
    rw [List.getElem?_take_of_lt hr, List.getElem?_eq_getElem hr, List.getElem?_eq_getElem h2]
    rw [List.getD_eq_getElem?_getD, List.getD_eq_getElem?_getD, List.getElem?_eq_getElem hr, List.getElem?_eq_getElem h2] at h1
    simpa using h1
  · rw [List.getElem?_eq_none (by omega), List.getElem?_eq_none (by rw [List.length_take]; omega)]
theorem Regd.size {l : List Tr} {s : St} (h : Regd l s) (h32 : s.regs.length = 32) : (tx (lst l)).length ≤ 33 + totT s.regs := by
  rw [lst_size]
  have h1 := totT_take s.regs l.length
  rw [← h.take h32] at h1
  have := h.1
  omega
theorem Regd.reg {l : List Tr} {s : St} (h : Regd l s) {k : Int} {n : Nat} (hk : k = (n : Int)) : l.getD n .nil = s.reg k := by
  subst hk
  rw [h.2 n]; simp [St.reg]
theorem rv_rev : ∀ (n : Nat) (l bf : List Tr), (rv n l bf).reverse = bf.reverse ++ (List.range n).map fun r => l.getD r .nil
  | 0, l, bf => by simp [rv]
  | n + 1, l, bf => by
    show (rv n l.tail (l.headD .nil :: bf)).reverse = _
    rw [rv_rev n, List.range_succ_eq_map, List.map_cons, List.map_map, List.reverse_cons, List.append_assoc]
    congr 1
    show [l.headD .nil] ++ _ = _
    rw [List.singleton_append]
    congr 1
    · cases l <;> rfl
    · refine List.map_congr_left fun r _ => ?_
      cases l <;> simp
theorem rv_size : ∀ (n : Nat) (l bf : List Tr), (tx (lst (rv n l bf))).length + (tx (lst (l.drop n))).length ≤ (tx (lst l)).length + (tx (lst bf)).length + 2 * n
  | 0, l, bf => by simp [rv]; omega
  | n + 1, l, bf => by
    have h := rv_size n l.tail (l.headD .nil :: bf)
    rw [show l.tail.drop n = l.drop (n + 1) from by cases l <;> simp] at h
    rw [tx_lst_cons] at h
    show (tx (lst (rv n l.tail (l.headD .nil :: bf)))).length + _ ≤ _
    cases l with
    | nil => simp [lst, tx] at h ⊢; omega
    | cons a l => rw [tx_lst_cons]; simp only [List.tail_cons, List.headD_cons] at h ⊢; omega
theorem rv_len (n : Nat) (l : List Tr) : (rv n l []).length = n := by
  have h := congrArg List.length (rv_rev n l [])
  simpa using h
/-- the list with another tree as one of its elements -/
def setU (l : List Tr) (n : Nat) (v : Tr) : List Tr := (rv n l []).reverse ++ v :: (l.drop n).tail
theorem setU_get (l : List Tr) (n : Nat) (v : Tr) (r : Nat) : (setU l n v).getD r .nil = if r = n then v else l.getD r .nil := by
  unfold setU
  rw [rv_rev, List.reverse_nil, List.nil_append, List.getD_eq_getElem?_getD]
  by_cases h : r < n
  · rw [List.getElem?_append_left (by simpa using h), if_neg (by omega), List.getElem?_map, List.getElem?_range h]; rfl
  · rw [List.getElem?_append_right (by simpa using h)]
    simp only [List.length_map, List.length_range]
    by_cases e : r = n
    · subst e; simp
    · rw [if_neg e]
      obtain ⟨q, hq⟩ : ∃ q, r - n = q + 1 := ⟨r - n - 1, by omega⟩
      rw [hq, List.getElem?_cons_succ, List.tail_drop, List.getElem?_drop, List.getD_eq_getElem?_getD]
      congr 2; omega
theorem setU_len {l : List Tr} {n : Nat} (v : Tr) (h : l.length ≤ 32) (hn : n < 32) : (setU l n v).length ≤ 32 := by
  unfold setU
  simp only [List.length_append, List.length_reverse, rv_len, List.length_cons, List.length_tail, List.length_drop]
  omega
theorem Regd.put {l : List Tr} {s : St} (h : Regd l s) {k : Int} {n : Nat} (hk : k = (n : Int)) (hn : n < 32) (h32 : s.regs.length = 32) (v : Tr) : Regd (setU l n v) (s.put k v) := by
  subst hk
  refine ⟨setU_len v h.1 hn, fun r => ?_⟩
  rw [setU_get]
  show _ = (s.regs.set (n : Int).toNat v).getD r .nil
  simp only [Int.toNat_natCast]
  have e2 : (s.regs.set n v).getD r .nil = if r = n then v else s.regs.getD r .nil := by
    rw [List.getD_eq_getElem?_getD, List.getElem?_set, List.getD_eq_getElem?_getD]
    by_cases e : r = n
    · subst e; simp [h32, hn]
    · rw [if_neg e, if_neg (Ne.symm e)]
  rw [e2, h.2 r]
/-- the universal program is about to run the instruction at which s stands -/
def AtU (ps : List Ins) (s : St) (u : St) : Prop :=
  ∃ l ar it va ta op se ye, u = us 102 (lst l) ar it va ta (lst ((codeL ps).drop s.at_)) .nil (lst ((codeL ps).take s.at_).reverse) op se ye ∧ ye ≠ .nil ∧ Regd l s
theorem drop_at {ps : List Ins} {k : Nat} {x : Ins} (h : ps[k]? = some x) : (codeL ps).drop k = codeT x :: (codeL ps).drop (k + 1) ∧ ((codeL ps).take (k + 1)).reverse = codeT x :: ((codeL ps).take k).reverse := by
  obtain ⟨hk, rfl⟩ := List.getElem?_eq_some_iff.1 h
  have hk2 : k < (codeL ps).length := by simpa [codeL] using hk
  have e : (codeL ps)[k] = codeT ps[k] := by simp [codeL]
  exact ⟨by rw [List.drop_eq_getElem_cons hk2, e], by rw [List.take_succ_eq_append_getElem hk2, e]; simp⟩
theorem code_split (cd : List Tr) (k : Nat) : (tx (lst (cd.drop k))).length + (tx (lst (cd.take k).reverse)).length = (tx (lst cd)).length + 1 := by
  rw [lst_size, lst_size, lst_size]
  have h : totT cd = totT (cd.take k) + totT (cd.drop k) := by
    conv => lhs; rw [← List.take_append_drop k cd]
    simp only [totT, List.map_append, List.sum_append]
  have h2 : totT (cd.take k).reverse = totT (cd.take k) := by simp [totT, List.sum_reverse]
  have h3 : (cd.take k).length + (cd.drop k).length = cd.length := by rw [← List.length_append, List.take_append_drop]
  rw [List.length_reverse]
  omega
section
variable {B : Prop} {ar it va ta op se ye : Tr}
/-- the value is put into its register, and the next instruction is the one to run -/
theorem store_run (hy : ye ≠ .nil) (l : List Tr) (n : Nat) (v c r : Tr) (dn : List Tr) (hn : n < 32) (hz : ¬ B → (tx (lst l)).length + (tx v).length ≤ 1000000) (hz2 : ¬ B → (tx c).length + (tx (lst dn)).length ≤ 1000000) :
    ∃ k it', k ≤ 300 ∧ 0 < k ∧ Go B k (us 86 (lst l) ar it v (numT n) (.pair c r) .nil (lst dn) op se ye) (us 102 (lst (setU l n v)) ar it' v .nil r .nil (lst (c :: dn)) op se ye) := by
  have hp := tx_pos (lst l)
  obtain ⟨i1, k1⟩ := loopS (B := B) (ar := ar) (va := v) (re := .pair c r) (dn := lst dn) (op := op) (se := se) (ye := ye) n l [] (it := it) (fun hb => by have := hz hb; show _ + 1 + _ ≤ _; omega)
  have hrv := rv_size n l []
  have k2 := (u86y (B := B) (rg := lst l) (ar := ar) (it := it) (va := v) (ta := numT n) (re := .pair c r) (be := lst []) (dn := lst dn) (op := op) (se := se) hy).trans k1
  have k3 := k2.trans u92
  rw [tl_lst] at k3
  have hsz : ¬ B → (tx (lst (v :: (l.drop n).tail))).length + (tx (lst (rv n l []))).length ≤ 2000001 := fun hb => by
    have h1 := hz hb
    have h2 : (tx (lst (l.drop n).tail)).length ≤ (tx (lst (l.drop n))).length := by
      rw [← tl_lst]; exact tlT_le _
    rw [tx_lst_cons]
    change _ ≤ _ + 1 + 2 * n at hrv
    omega
  have k4 := k3.trans (u93 (fun hb => by
    have h1 := hsz hb; have h2 := tx_pos (lst (rv n l []))
    rw [tx_lst_cons] at h1; rw [tx_pair]; omega))
  have k5 := k4.trans (u94y hy)
  obtain ⟨i2, k6⟩ := loopB (B := B) (ar := ar) (va := v) (ta := .nil) (re := .pair c r) (dn := lst dn) (op := op) (se := se) (ye := ye) (rv n l []) (v :: (l.drop n).tail) (it := i1) (fun hb => by have := hsz hb; omega)
  have k7 := k5.trans k6
  have k8 := k7.trans (u99.trans (u100 (fun hb => by
    have h1 := hz2 hb; have := tx_pos (lst dn)
    rw [tx_pair]; show 1 + (tx c).length + _ ≤ _; omega)))
  have k9 := k8.trans u101
  refine ⟨_, _, ?_, ?_, k9⟩
  · rw [rv_len]; omega
  · omega
end
theorem right_opU {x : Ins} {i n : Int} (h : right x i n = true) : (∃ q : Nat, q < 32 ∧ x.a = (q : Int)) ∧ (x.op = 0 ∨ (x.op = 1 ∨ x.op = 3 ∨ x.op = 4) ∧ (∃ q : Nat, q < 32 ∧ x.b = (q : Int)) ∨ x.op = 2 ∧ (∃ q : Nat, q < 32 ∧ x.b = (q : Int)) ∧ (∃ q : Nat, q < 32 ∧ x.c = (q : Int)) ∨ x.op = 5 ∧ -i ≤ x.b ∧ x.b ≤ n - i) := by
  have hg : ∀ {n : Int}, reg n = true → ∃ q : Nat, q < 32 ∧ n = (q : Int) := fun {n} hr => by
    have := reg_true hr; exact ⟨n.toNat, by omega, by omega⟩
  unfold right at h
  simp only [Bool.and_eq_true] at h
  refine ⟨hg h.1.1.1, ?_⟩
  have h9 := h.2
  by_cases h0 : x.op = 0
  · exact .inl h0
  · rw [if_neg h0] at h9
    by_cases h1 : x.op = 1 ∨ x.op = 3 ∨ x.op = 4
    · rw [if_pos h1] at h9; exact .inr (.inl ⟨h1, hg h9⟩)
    · rw [if_neg h1] at h9
      by_cases h2 : x.op = 2
      · rw [if_pos h2] at h9; simp only [Bool.and_eq_true] at h9; exact .inr (.inr (.inl ⟨h2, hg h9.1, hg h9.2⟩))
      · rw [if_neg h2] at h9
        by_cases h5 : x.op = 5
        · rw [if_pos h5] at h9; simp only [Bool.and_eq_true, decide_eq_true_eq] at h9; exact .inr (.inr (.inr ⟨h5, h9⟩))
        · rw [if_neg h5] at h9; cases h9
/-- what bounds the trees while an instruction is run -/
def Small (B : Prop) (ps : List Ins) (s : St) : Prop := ¬ B → (tx (lst (codeL ps))).length ≤ 200000 ∧ totT s.regs ≤ 200000
theorem sim_put {B : Prop} {ps : List Ins} {s u : St} {x : Ins} {l : List Tr} {ar it v op se ye : Tr} {k0 a : Nat} (hs : s.ok ps.length) (hx : ps[s.at_]? = some x) (hl : Regd l s) (hy : ye ≠ .nil) (ha : x.a = (a : Int)) (h32 : a < 32) (hk0 : k0 ≤ 300)
    (h : Go B k0 u (us 86 (lst l) ar it v (numT x.a.toNat) (lst (codeT x :: (codeL ps).drop (s.at_ + 1))) .nil (lst ((codeL ps).take s.at_).reverse) op se ye)) (hB : Small B ps s) (hB2 : Small B ps (s.put x.a v)) :
    ∃ k u', k ≤ 5 * ps.length + 700 ∧ 0 < k ∧ Go B k u u' ∧ AtU ps (s.put x.a v) u' := by
  obtain ⟨hd1, hd2⟩ := drop_at hx
  have hcs := code_split (codeL ps) s.at_
  rw [hd1, tx_lst_cons] at hcs
  have hv : (tx v).length ≤ totT (s.put x.a v).regs := totT_mem (by
    show v ∈ s.regs.set x.a.toNat v
    exact List.mem_iff_getElem?.2 ⟨a, by rw [ha]; simp [hs.2.1, h32]⟩)
  have hna : x.a.toNat = a := by rw [ha]; simp
  rw [hna] at h
  obtain ⟨k, it', hk, hk1, hg⟩ := store_run (B := B) (ar := ar) (it := it) (op := op) (se := se) hy l a v (codeT x) (lst ((codeL ps).drop (s.at_ + 1))) ((codeL ps).take s.at_).reverse h32 (fun hb => by
    have h1 := hB hb; have h2 := hB2 hb; have h3 := hl.size hs.2.1; omega) (fun hb => by
    have h1 := hB hb; have := tx_pos (lst ((codeL ps).drop (s.at_ + 1))); omega)
  refine ⟨k0 + k, _, by omega, by omega, h.trans hg, setU l a v, ar, it', v, .nil, op, se, ye, ?_, hy, hl.put ha h32 hs.2.1 v⟩
  show _ = us 102 _ _ _ _ _ (lst ((codeL ps).drop (s.at_ + 1))) _ (lst ((codeL ps).take (s.at_ + 1)).reverse) _ _ _
  rw [hd2]
theorem sim_step {B : Prop} {ps : List Ins} {s t u : St} (hv : PValid ps) (hs : s.ok ps.length) (hne : s.at_ ≠ ps.length) (hst : stepP ps s = some t) (hu : AtU ps s u) (hB : Small B ps s) (hB2 : Small B ps t) :
    ∃ k u', k ≤ 5 * ps.length + 700 ∧ 0 < k ∧ Go B k u u' ∧ AtU ps t u' := by
  obtain ⟨l, ar, it, va, ta, op, se, ye, rfl, hy, hl⟩ := hu
  have hlt : s.at_ < ps.length := by have := hs.1; omega
  obtain ⟨x, hx⟩ : ∃ x, ps[s.at_]? = some x := ⟨_, List.getElem?_eq_getElem hlt⟩
  obtain ⟨⟨a, ha, hxa⟩, hop⟩ := right_opU (hv.2.2 s.at_ x hx)
  obtain ⟨hd1, hd2⟩ := drop_at hx
  have hna : x.a.toNat = a := by rw [hxa]; simp
  have hsx : stepI x s = some t := by unfold stepP at hst; rw [hx] at hst; exact hst
  have hcs := code_split (codeL ps) s.at_
  rw [hd1]
  have f1 : Go B 6 (us 102 (lst l) ar it va ta (lst (codeT x :: (codeL ps).drop (s.at_ + 1))) .nil (lst ((codeL ps).take s.at_).reverse) op se ye) (us 10 (lst l) (payT x) (codeT x) va (numT x.a.toNat) (lst (codeT x :: (codeL ps).drop (s.at_ + 1))) .nil (lst ((codeL ps).take s.at_).reverse) (numT x.op.toNat) se ye) :=
    ((u102y lst_ne).trans (fetch (o := numT x.op.toNat) (a := numT x.a.toNat) (y := payT x) (r := lst ((codeL ps).drop (s.at_ + 1))))).cast rfl
  rcases hop with h0 | ⟨h134, b, hb, hxb⟩ | ⟨h2, ⟨b, hb, hxb⟩, ⟨c, hc, hxc⟩⟩ | ⟨h5, h5a, h5b⟩
  · rw [stepI_0 s h0] at hsx
    obtain rfl := Option.some.inj hsx
    have hp : payT x = rd x.tree := if_pos h0
    rw [hp, h0] at f1
    exact sim_put hs hx hl hy hxa ha (by omega) (f1.trans (oper0 hy)) hB hB2
  · have hnb : x.b.toNat = b := by rw [hxb]; simp
    have hreg := hl.reg hxb
    have hp : payT x = numT b := by
      unfold payT
      rw [if_neg (by omega), if_neg (by omega), if_neg (by omega), hnb]
    rw [hp] at f1
    rcases h134 with h1 | h3 | h4
    · rw [stepI_1 s h1] at hsx
      obtain rfl := Option.some.inj hsx
      rw [h1] at f1
      have g1 := f1.trans (oper1 b l hy)
      rw [hreg] at g1
      exact sim_put hs hx hl hy hxa ha (by omega) g1 hB hB2
    · rw [stepI_3 s h3] at hsx
      obtain rfl := Option.some.inj hsx
      rw [h3] at f1
      have g1 := f1.trans (oper3 b l hy)
      rw [hreg] at g1
      exact sim_put hs hx hl hy hxa ha (by omega) g1 hB hB2
    · rw [stepI_4 s h4] at hsx
      obtain rfl := Option.some.inj hsx
      rw [h4] at f1
      have g1 := f1.trans (oper4 b l hy)
      rw [hreg] at g1
      exact sim_put hs hx hl hy hxa ha (by omega) g1 hB hB2
  · have hnb : x.b.toNat = b := by rw [hxb]; simp
    have hnc : x.c.toNat = c := by rw [hxc]; simp
    have hrb := hl.reg hxb; have hrc := hl.reg hxc
    rw [stepI_2 s h2] at hsx
    by_cases hz : (tx (.pair (s.reg x.b) (s.reg x.c))).length ≤ 2000000
    · rw [if_pos hz] at hsx
      obtain rfl := Option.some.inj hsx
      have hp : payT x = .pair (numT b) (numT c) := by
        unfold payT
        rw [if_neg (by omega), if_pos h2, hnb, hnc]
      rw [hp, h2] at f1
      have g1 := f1.trans (oper2 b c l hy (fun _ => by rw [hrb, hrc]; exact hz))
      rw [hrb, hrc] at g1
      exact sim_put hs hx hl hy hxa ha (by omega) g1 hB hB2
    · rw [if_neg hz] at hsx; cases hsx
  · have hra := hl.reg hxa
    rw [stepI_5 s h5] at hsx
    rw [hna, h5] at f1
    have g1 := f1.trans (oper5 a l hy)
    rw [hra] at g1
    by_cases hr : s.reg x.a = .nil
    · rw [if_pos hr] at hsx
      obtain rfl := Option.some.inj hsx
      rw [hr] at g1
      have g2 := g1.trans (u67n.trans ((u68y hy).trans (u99.trans (u100 (fun hb => by
        have h1 := hB hb
        rw [hd1] at hcs; rw [tx_lst_cons] at hcs
        have := tx_pos (lst ((codeL ps).drop (s.at_ + 1)))
        rw [tx_pair]; show 1 + (tx (codeT x)).length + _ ≤ _; omega)))))
      have g3 := g2.trans u101
      change Go B _ _ (us 102 (lst l) (payT x) (codeT x) .nil .nil (lst ((codeL ps).drop (s.at_ + 1))) .nil (lst (codeT x :: ((codeL ps).take s.at_).reverse)) .nil se ye) at g3
      rw [← hd2] at g3
      exact ⟨_, _, by omega, by omega, g3, l, _, _, _, _, _, _, ye, rfl, hy, hl⟩
    · rw [if_neg hr] at hsx
      obtain rfl := Option.some.inj hsx
      have hlc : (codeL ps).length = ps.length := by simp [codeL]
      by_cases hneg : x.b < 0
      · obtain ⟨m, hm⟩ : ∃ m : Nat, (-x.b).toNat = m := ⟨_, rfl⟩
        have hp : payT x = .pair (.pair .nil .nil) (numT m) := by
          unfold payT
          rw [if_neg (by omega), if_neg (by omega), if_pos h5, if_pos hneg, hm]
        rw [hp] at g1
        have hat : ((s.at_ : Int) + x.b).toNat = s.at_ - m := by omega
        have hP : (codeL ps).take s.at_ = (codeL ps).take (s.at_ - m) ++ ((codeL ps).drop (s.at_ - m)).take m := by
          conv => lhs; rw [show s.at_ = (s.at_ - m) + m from by omega, List.take_add]
        have hQ : (codeL ps).drop (s.at_ - m) = ((codeL ps).drop (s.at_ - m)).take m ++ (codeL ps).drop s.at_ := by
          conv => lhs; rw [← List.take_append_drop m ((codeL ps).drop (s.at_ - m)), List.drop_drop, show s.at_ - m + m = s.at_ from by omega]
        have hQl : (((codeL ps).drop (s.at_ - m)).take m).reverse.length = m := by rw [List.length_reverse, List.length_take, List.length_drop]; omega
        have g2 := g1.trans ((u67y hr).trans (u69.trans (u70.trans ((u71y (fun h => Tr.noConfusion h)).trans (u79y hy)))))
        obtain ⟨it', k2⟩ := loopK (B := B) (rg := lst l) (va := .pair .nil .nil) (ta := .nil) (be := .nil) (op := .nil) (se := se) (ye := ye) (((codeL ps).drop (s.at_ - m)).take m).reverse ((codeL ps).take (s.at_ - m)).reverse ((codeL ps).drop s.at_) (it := codeT x) (fun hb => by
          have h1 := hB hb
          rw [← List.reverse_append, ← hP]; omega)
        rw [hQl, List.reverse_reverse, ← hQ, ← List.reverse_append, ← hP, hd1] at k2
        have g3 := (g2.trans k2).trans (u85y hy)
        refine ⟨_, _, ?_, ?_, g3, ?_⟩
        · omega
        · omega
        · rw [hat]
          exact ⟨l, _, _, _, _, _, _, ye, rfl, hy, hl⟩
      · obtain ⟨m, hm⟩ : ∃ m : Nat, x.b.toNat = m := ⟨_, rfl⟩
        have hp : payT x = .pair .nil (numT m) := by
          unfold payT
          rw [if_neg (by omega), if_neg (by omega), if_pos h5, if_neg hneg, hm]
        rw [hp] at g1
        have hat : ((s.at_ : Int) + x.b).toNat = s.at_ + m := by omega
        have hP : (codeL ps).drop s.at_ = ((codeL ps).drop s.at_).take m ++ (codeL ps).drop (s.at_ + m) := by
          conv => lhs; rw [← List.take_append_drop m ((codeL ps).drop s.at_), List.drop_drop]
        have hQ : ((codeL ps).take (s.at_ + m)).reverse = (((codeL ps).drop s.at_).take m).reverse ++ ((codeL ps).take s.at_).reverse := by
          rw [List.take_add, List.reverse_append]
        have hQl : (((codeL ps).drop s.at_).take m).length = m := by rw [List.length_take, List.length_drop]; omega
        have g2 := g1.trans ((u67y hr).trans (u69.trans (u70.trans (u71n.trans (u72y hy)))))
        obtain ⟨it', k2⟩ := loopF (B := B) (rg := lst l) (va := .nil) (ta := .nil) (be := .nil) (op := .nil) (se := se) (ye := ye) (((codeL ps).drop s.at_).take m) ((codeL ps).drop (s.at_ + m)) ((codeL ps).take s.at_).reverse (it := codeT x) (fun hb => by
          have h1 := hB hb
          rw [← hP]; omega)
        rw [hQl, ← hQ, ← hP, hd1] at k2
        have g3 := (g2.trans k2).trans (u78y hy)
        refine ⟨_, _, ?_, ?_, g3, ?_⟩
        · omega
        · omega
        · rw [hat]
          exact ⟨l, _, _, _, _, _, _, ye, rfl, hy, hl⟩
/-- the universal program takes its input apart -/
theorem sim_start {B : Prop} {ps : List Ins} {x : Tr} (hz : (tx (.pair (lst (codeL ps)) x)).length ≤ 2000000) : ∃ u, Go B 5 (first (.pair (lst (codeL ps)) x)) u ∧ AtU ps (first x) u := by
  have h1 := tx_pos (lst (codeL ps))
  rw [tx_pair] at hz
  have e1 : (tx (.pair x .nil)).length = 2 + (tx x).length := by rw [tx_pair]; simp [tx]; omega
  have g : Go B _ (us 0 (.pair (lst (codeL ps)) x) .nil .nil .nil .nil .nil .nil .nil .nil .nil .nil) _ := u0.trans (u1.trans ((u2 (fun _ => by show (tx (.pair x .nil)).length ≤ _; omega)).trans (u3.trans (u4y (by rw [rdp_100]; exact fun h => Tr.noConfusion h)))))
  refine ⟨_, g, [x], .nil, .nil, .nil, .nil, .nil, .nil, rd [49, 48, 48], rfl, by rw [rdp_100]; exact fun h => Tr.noConfusion h, by simp, fun r => ?_⟩
  show _ = (x :: List.replicate 31 Tr.nil).getD r .nil
  cases r with
  | zero => rfl
  | succ r =>
    simp only [List.getD_cons_succ, List.getD_nil]
    rw [List.getD_eq_getElem?_getD, List.getElem?_replicate]
    split <;> rfl
/-- the universal program does what the program does -/
theorem sim_run {B : Prop} {ps : List Ins} {x : Tr} (hv : PValid ps) (hx : (tx x).length ≤ 2000000) (hz : (tx (.pair (lst (codeL ps)) x)).length ≤ 2000000) {n : Nat} {t : St} (h : Steps ps (first x) n t) :
    (∀ m s, m ≤ n → Steps ps (first x) m s → Small B ps s) → ∃ k u, k ≤ 5 + n * (5 * ps.length + 700) ∧ n ≤ k ∧ Go B k (first (.pair (lst (codeL ps)) x)) u ∧ AtU ps t u := by
  induction h with
  | zero =>
    intro _
    obtain ⟨u, h1, h2⟩ := sim_start (B := B) hz
    exact ⟨5, u, by omega, by omega, h1, h2⟩
  | succ hs hne hst ih =>
    rename_i n s t
    intro hB
    obtain ⟨k, u, h1, h2, h3, h4⟩ := ih fun m s' hm hs' => hB m s' (by omega) hs'
    have hok := hs.ok hv (first_ok _ hx)
    obtain ⟨j, u', j1, j2, j3, j4⟩ := sim_step hv hok hne hst h4 (hB n s (by omega) hs) (hB (n + 1) t (by omega) (hs.succ hne hst))
    refine ⟨k + j, u', ?_, by omega, h3.trans j3, j4⟩
    rw [Nat.add_mul]; omega
/-- and returns what it returns -/
theorem sim_end {B : Prop} {ps : List Ins} {s u : St} (he : s.at_ = ps.length) (hu : AtU ps s u) : ∃ v, Go B 2 u v ∧ v.at_ = univL.length ∧ v.reg 0 = s.reg 0 := by
  obtain ⟨l, ar, it, va, ta, op, se, ye, rfl, hy, hl⟩ := hu
  have hd : (codeL ps).drop s.at_ = [] := List.drop_eq_nil_of_le (by simp [codeL]; omega)
  rw [hd]
  refine ⟨_, (u102n.trans u103), rfl, ?_⟩
  show hdT (lst l) = _
  rw [hd_lst, ← hl.reg (k := 0) (n := 0) rfl]
  cases l <;> rfl
end Go.Proofs.YtmhoacnbmbhcjaaGreatDoor
