/- The programs of the chapter's examples: plain mathematics. By an AI agent. -/
import Derived.Test.YtpiahjbpidcjpaaRun
namespace Go.Proofs.Ytpiahjbpidcjpaa
open Go.RowKit Pl

def pTail : List Ins := [⟨4, 0, 0, 0, []⟩]
def pLoop : List Ins := [⟨0, 1, 0, 0, [49, 48, 48]⟩, ⟨5, 1, 0, 0, []⟩]
def pDbl : List Ins := [⟨2, 0, 0, 0, []⟩, ⟨5, 0, -1, 0, []⟩]
theorem allR_one {x : Ins} (h : right x 0 1 = true) : AllR [x] := by
  intro k y hy
  match k, hy with
  | 0, hy => simp at hy; subst hy; exact h
  | k + 1, hy => simp at hy
theorem allR_two {x y : Ins} (h : right x 0 2 = true) (h2 : right y 1 2 = true) : AllR [x, y] := by
  intro k z hz
  match k, hz with
  | 0, hz => simp at hz; subst hz; exact h
  | 1, hz => simp at hz; subst hz; exact h2
  | k + 2, hz => simp at hz
theorem pTail_valid : PValid pTail := ⟨by decide, by decide, allR_one (by decide)⟩
theorem pLoop_valid : PValid pLoop := ⟨by decide, by decide, allR_two (by decide) (by decide)⟩
theorem pDbl_valid : PValid pDbl := ⟨by decide, by decide, allR_two (by decide) (by decide)⟩
theorem pNil_valid : PValid [] := ⟨by decide, by decide, fun k x h => by simp at h⟩
theorem rd_of {l : List UInt8} {t : Tr} (h : tx t = l) : rd l = t := by rw [← h, rd_tx]
theorem rd_0 : rd [48] = .nil := rd_of rfl
theorem rd_100 : rd [49, 48, 48] = .pair .nil .nil := rd_of rfl
theorem rd_10100 : rd [49, 48, 49, 48, 48] = .pair .nil (.pair .nil .nil) := rd_of rfl
theorem run_tail : runRes pTail 10 (rd [49, 48, 49, 48, 48]) = .tuple #[.string (S [49, 48, 48]), .int .i64 1, .int .i64 0] := by
  have h : runTo pTail 10 (first (rd [49, 48, 49, 48, 48])) = some ((first (rd [49, 48, 49, 48, 48])).put 0 (.pair .nil .nil), 1) :=
    runTo_is (.succ .zero (by decide) (by rw [rd_10100]; rfl)) (by decide) (.inr rfl)
  unfold runRes
  rw [h]
  rfl
theorem run_nil : runRes [] 0 (rd [49, 48, 48]) = .tuple #[.string (S [49, 48, 48]), .int .i64 0, .int .i64 0] := by
  have h : runTo [] 0 (first (rd [49, 48, 48])) = some (first (rd [49, 48, 48]), 0) := rfl
  unfold runRes
  rw [h, rd_100]
  rfl
theorem stepP_jump {ps : List Ins} {s : St} {x : Ins} (h : ps[s.at_]? = some x) (h5 : x.op = 5) (hne : s.reg x.a ≠ .nil) : stepP ps s = some ⟨((s.at_ : Int) + x.b).toNat, s.regs⟩ := by
  unfold stepP
  rw [h]
  show stepI x s = _
  unfold stepI
  rw [if_neg (by omega), if_neg (by omega), if_neg (by omega), if_neg (by omega), if_neg (by omega), if_neg hne]
theorem loop_steps (n : Nat) : Steps pLoop (first .nil) (n + 1) ((first .nil).put 1 (rd [49, 48, 48])) := by
  induction n with
  | zero => exact .succ .zero (by decide) rfl
  | succ n ih => exact .succ ih (by decide) (by rw [rd_100]; exact stepP_jump (x := ⟨5, 1, 0, 0, []⟩) rfl rfl (fun h => by cases h))
theorem run_loop : runRes pLoop 1000 (rd [48]) = .tuple #[.string (S []), .int .i64 0, .int .i64 7] := by
  have h : runTo pLoop 1000 (first .nil) = some ((first .nil).put 1 (rd [49, 48, 48]), 1000) := runTo_is (loop_steps 999) (Nat.le_refl _) (.inl rfl)
  unfold runRes
  rw [rd_0, h]
  rfl

/-- a tree doubled again and again -/
def dbl (t : Tr) : Nat → Tr
  | 0 => t
  | j + 1 => .pair (dbl t j) (dbl t j)
theorem dbl_len (t : Tr) (j : Nat) : (tx (dbl t j)).length + 1 = 2 ^ j * ((tx t).length + 1) := by
  induction j with
  | zero => simp [dbl]
  | succ j ih => rw [dbl, tx_pair, Nat.pow_succ]; have h : 2 ^ j * 2 * ((tx t).length + 1) = 2 * (2 ^ j * ((tx t).length + 1)) := by rw [Nat.mul_comm (2 ^ j) 2, Nat.mul_assoc]
                 rw [h, ← ih]; omega
theorem dbl_succ_len (t : Tr) (j : Nat) : (tx (dbl t (j + 1))).length = 2 * (tx (dbl t j)).length + 1 := by rw [dbl, tx_pair]; omega
theorem dbl_mono (t : Tr) {i j : Nat} (h : i ≤ j) : (tx (dbl t i)).length ≤ (tx (dbl t j)).length := by
  induction h with
  | refl => exact Nat.le_refl _
  | step _ ih => rw [dbl_succ_len]; omega
/-- the state of the doubling program after k steps -/
def dblSt (t : Tr) (k : Nat) : St := ⟨k % 2, dbl t ((k + 1) / 2) :: List.replicate 31 .nil⟩
theorem dbl_even {t : Tr} {j : Nat} (h : (tx (dbl t (j + 1))).length ≤ 2000000) : stepP pDbl (dblSt t (2 * j)) = some (dblSt t (2 * j + 1)) := by
  have e1 : dblSt t (2 * j) = ⟨0, dbl t j :: List.replicate 31 .nil⟩ := by unfold dblSt; rw [show 2 * j % 2 = 0 by omega, show (2 * j + 1) / 2 = j by omega]
  have e2 : dblSt t (2 * j + 1) = ⟨1, dbl t (j + 1) :: List.replicate 31 .nil⟩ := by unfold dblSt; rw [show (2 * j + 1) % 2 = 1 by omega, show (2 * j + 1 + 1) / 2 = j + 1 by omega]
  rw [e1, e2]
  show (if (tx (.pair (dbl t j) (dbl t j))).length ≤ 2000000 then some _ else none) = _
  rw [if_pos (show (tx ((dbl t j).pair (dbl t j))).length ≤ 2000000 from h)]
  rfl
theorem dbl_large {t : Tr} {j : Nat} (h : ¬ (tx (dbl t (j + 1))).length ≤ 2000000) : stepP pDbl (dblSt t (2 * j)) = none := by
  have e1 : dblSt t (2 * j) = ⟨0, dbl t j :: List.replicate 31 .nil⟩ := by unfold dblSt; rw [show 2 * j % 2 = 0 by omega, show (2 * j + 1) / 2 = j by omega]
  rw [e1]
  show (if (tx (.pair (dbl t j) (dbl t j))).length ≤ 2000000 then some _ else none) = _
  rw [if_neg (show ¬ (tx ((dbl t j).pair (dbl t j))).length ≤ 2000000 from h)]
theorem dbl_odd {t : Tr} {j : Nat} : stepP pDbl (dblSt t (2 * j + 1)) = some (dblSt t (2 * j + 2)) := by
  have e1 : dblSt t (2 * j + 1) = ⟨1, .pair (dbl t j) (dbl t j) :: List.replicate 31 .nil⟩ := by unfold dblSt; rw [show (2 * j + 1) % 2 = 1 by omega, show (2 * j + 1 + 1) / 2 = j + 1 by omega]; rfl
  have e2 : dblSt t (2 * j + 2) = ⟨0, .pair (dbl t j) (dbl t j) :: List.replicate 31 .nil⟩ := by unfold dblSt; rw [show (2 * j + 2) % 2 = 0 by omega, show (2 * j + 2 + 1) / 2 = j + 1 by omega]; rfl
  rw [e1, e2]
  exact stepP_jump (ps := pDbl) (s := ⟨1, .pair (dbl t j) (dbl t j) :: List.replicate 31 .nil⟩) (x := ⟨5, 0, -1, 0, []⟩) rfl rfl (fun h => Tr.noConfusion (show Tr.pair (dbl t j) (dbl t j) = .nil from h))
theorem dblSt_at (t : Tr) (k : Nat) : (dblSt t k).at_ ≠ pDbl.length := by
  show k % 2 ≠ 2
  omega
theorem dbl_steps {t : Tr} {J : Nat} (h : (tx (dbl t J)).length ≤ 2000000) : ∀ {k : Nat}, k ≤ 2 * J → Steps pDbl (first t) k (dblSt t k) := by
  intro k
  induction k with
  | zero => intro _; exact .zero
  | succ k ih =>
    intro hk
    refine .succ (ih (by omega)) (dblSt_at t k) ?_
    rcases Nat.mod_two_eq_zero_or_one k with h0 | h0
    · obtain ⟨j, rfl⟩ : ∃ j, k = 2 * j := ⟨k / 2, by omega⟩
      exact dbl_even (Nat.le_trans (dbl_mono t (by omega)) h)
    · obtain ⟨j, rfl⟩ : ∃ j, k = 2 * j + 1 := ⟨k / 2, by omega⟩
      exact dbl_odd
theorem dbl_run {t : Tr} {J K : Nat} (h : (tx (dbl t J)).length ≤ 2000000) (hK : K ≤ 2 * J) : runTo pDbl K (first t) = some (dblSt t K, K) :=
  runTo_is (dbl_steps h hK) (Nat.le_refl _) (.inl rfl)
theorem dbl_none {t : Tr} {J K : Nat} (h : (tx (dbl t J)).length ≤ 2000000) (h2 : ¬ (tx (dbl t (J + 1))).length ≤ 2000000) (hK : 2 * J < K) : runTo pDbl K (first t) = none :=
  runTo_large (dbl_steps h (Nat.le_refl _)) hK (dblSt_at t _) (dbl_large h2)
theorem run_dbl : runRes pDbl 1000 (rd [48]) = .tuple #[.string (S []), .int .i64 0, .int .i64 3] := by
  have l19 : (tx (dbl .nil 19)).length ≤ 2000000 := by have := dbl_len .nil 19; have e : 2 ^ 19 * ((tx Tr.nil).length + 1) = 1048576 := by decide
                                                       omega
  have l20 : ¬ (tx (dbl .nil 20)).length ≤ 2000000 := by have := dbl_len .nil 20; have e : 2 ^ 20 * ((tx Tr.nil).length + 1) = 2097152 := by decide
                                                         omega
  have h : runTo pDbl 1000 (first .nil) = none := dbl_none l19 l20 (by decide)
  unfold runRes
  rw [rd_0, h]
end Go.Proofs.Ytpiahjbpidcjpaa
