/- The run of a program that Fix makes: mathematics. By an AI agent. -/
import Derived.Test.YtmhoacnbmbhcjaaGreatDoorFix
import Derived.Test.YtmhoacnbmbhcjaaGreatDoorURuns
import Derived.Test.YtmhoacnbmbhcjaaGreatDoorTopM
import Derived.Test.YtmhoacnbmbhcjaaGreatDoorPly
namespace Go.Proofs.YtmhoacnbmbhcjaaGreatDoor
open Go.RowKit Go.Maps Pl

/-- what begins the program of Fix, up to the universal program -/
def fixA (t : List Ins) : List Ins := [tailI (rn t) 0, headI 0 0] ++ t ++ clearL 1 (rn t - 1) ++ [consI 0 0 (rn t), setI (rn t) [48]]
theorem fixL_a (t : List Ins) : fixL t = fixA t ++ univL := rfl
theorem fixA_len (t : List Ins) : (fixA t).length = t.length + (rn t - 1) + 4 := by
  unfold fixA
  simp only [List.length_append, List.length_cons, List.length_nil, clearL_len]
  omega
theorem size_never {ps : List Ins} {K : Nat} {s0 : St} (h : out ps K s0 = .size) (L : Nat) (z : Tr) (n : Nat) : out ps L s0 ≠ .ok z n := by
  intro hL
  obtain ⟨m, s', hm, h1, h2, h3⟩ := out_is_size h
  obtain ⟨st, g1, g2, g3, _⟩ := out_ok hL
  rcases Nat.lt_or_ge m n with hmn | hmn
  · rw [out_large h1 (by omega) h2 h3] at hL; cases hL
  · rw [out_more hL (by omega : n ≤ K)] at h; cases h
/-- a state where the transformation is about to begin -/
theorem fix_begin {t : List Ins} (hn : rn t ≤ 31) {c x : Tr} :
    ∃ s, Steps (fixL t) (first (.pair c x)) 2 s ∧ Start 2 (rn t) c s ∧ s.regs[rn t]? = some x ∧ (∀ r, rn t < r → r < 32 → s.regs[r]? = some .nil) := by
  have h0 := rn_pos t
  have st0 := start_first (.pair c x) 32 (Nat.le_refl _)
  generalize hs0 : first (.pair c x) = s0 at *
  obtain ⟨s1, k1, a1, v1, m1⟩ := do_tail (show fixL t = ([] : List Ins) ++ tailI (rn t) 0 :: ([headI 0 0] ++ t ++ clearL 1 (rn t - 1) ++ [consI 0 0 (rn t), setI (rn t) [48]] ++ univL) from rfl) st0.here (n := rn t) (k := 0) rfl (by omega) rfl st0.r0
  have h10 : s1.regs[0]? = some (.pair c x) := by rw [m1 0 (by omega)]; exact st0.r0
  obtain ⟨s2, k2, a2, v2, m2⟩ := do_head (show fixL t = ([tailI (rn t) 0] : List Ins) ++ headI 0 0 :: (t ++ clearL 1 (rn t - 1) ++ [consI 0 0 (rn t), setI (rn t) [48]] ++ univL) from rfl) a1 (n := 0) (k := 0) rfl (by omega) rfl h10
  refine ⟨s2, k1.then k2, ⟨a2, v2, fun r h1 h2 => ?_⟩, ?_, fun r h1 h2 => ?_⟩
  · rw [m2 r (by omega), m1 r (by omega)]; exact st0.rest r h1 (by omega)
  · rw [m2 _ (by omega), v1]; rfl
  · rw [m2 r (by omega), m1 r (by omega)]; exact st0.rest r (by omega) h2
theorem fix_mid (t : List Ins) : fixL t = [tailI (rn t) 0, headI 0 0] ++ t ++ (clearL 1 (rn t - 1) ++ [consI 0 0 (rn t), setI (rn t) [48]] ++ univL) := by
  unfold fixL; simp only [List.append_assoc]
theorem fix_ok {t : List Ins} (ht : PValid t) (hn : rn t ≤ 31) {c x z : Tr} {K k : Nat} (hc : (tx c).length ≤ 2000000) (h : out t K (first c) = .ok z k) (hz : (tx (.pair z x)).length ≤ 2000000) :
    ∃ s, Steps (fixL t) (first (.pair c x)) (k + rn t + 3) s ∧ Start (fixA t).length 32 (.pair z x) s := by
  have h0 := rn_pos t
  obtain ⟨s2, k2, hst, hx, hr⟩ := fix_begin (t := t) hn (c := c) (x := x)
  obtain ⟨_, s3, k3, at3, l3, r3, hi3⟩ := part_ok (A := [tailI (rn t) 0, headI 0 0]) (fix_mid t) ht (by rw [rn_eq]; exact Int.le_refl _) (hst.sim (by omega)) (first_ok _ hc) h
  have a3 : At ([tailI (rn t) 0, headI 0 0] ++ t).length s3 := ⟨by rw [at3, List.length_append], l3⟩
  have hcl : fixL t = ([tailI (rn t) 0, headI 0 0] ++ t) ++ cleanL (rn t) ++ ([consI 0 0 (rn t), setI (rn t) [48]] ++ univL) := by
    unfold fixL; rw [clearL_one]; simp only [List.append_assoc]
  obtain ⟨s4, k4, a4, lo4, hi4⟩ := clean_run hcl (by omega) a3 (rn t - 1) (Nat.le_refl _)
  have b4 : At (([tailI (rn t) 0, headI 0 0] ++ t) ++ clearL 1 (rn t - 1)).length s4 := by rw [List.length_append (bs := clearL 1 (rn t - 1)), clearL_len]; exact a4
  have v40 : s4.regs[0]? = some z := by rw [lo4 0 (.inl rfl)]; exact r3
  have v4n : s4.regs[rn t]? = some x := by rw [lo4 _ (.inr (by omega)), hi3 _ (Nat.le_refl _)]; exact hx
  obtain ⟨s5, k5, a5, v5, m5⟩ := do_cons (show fixL t = (([tailI (rn t) 0, headI 0 0] ++ t) ++ clearL 1 (rn t - 1)) ++ consI 0 0 (rn t) :: ([setI (rn t) [48]] ++ univL) by unfold fixL; simp) b4 (n := 0) (k := 0) (l := rn t) rfl (by omega) rfl rfl v40 v4n hz
  have b5 : At (([tailI (rn t) 0, headI 0 0] ++ t) ++ clearL 1 (rn t - 1) ++ [consI 0 0 (rn t)]).length s5 := by rw [List.length_append (bs := [consI 0 0 (rn t)])]; exact a5
  obtain ⟨s6, k6, a6, v6, m6⟩ := do_set (show fixL t = (([tailI (rn t) 0, headI 0 0] ++ t) ++ clearL 1 (rn t - 1) ++ [consI 0 0 (rn t)]) ++ setI (rn t) [48] :: univL by unfold fixL; simp) b5 (n := rn t) rfl (by omega)
  rw [rdp_0] at v6
  have hs := (((k2.then k3).then k4).then k5).then k6
  have e : 2 + k + (rn t - 1) + 1 + 1 = k + rn t + 3 := by omega
  rw [e] at hs
  refine ⟨s6, hs, ?_, ?_, fun r h1 h2 => ?_⟩
  · have e2 : (fixA t).length = (([tailI (rn t) 0, headI 0 0] ++ t) ++ clearL 1 (rn t - 1) ++ [consI 0 0 (rn t)]).length + 1 := by
      rw [fixA_len]; simp only [List.length_append, List.length_cons, List.length_nil, clearL_len]; omega
    rw [e2]; exact a6
  · rw [m6 0 (by omega)]; exact v5
  · by_cases er : r = rn t
    · subst er; exact v6
    · rw [m6 r er, m5 r (by omega)]
      by_cases hlt : r < rn t
      · exact hi4 r h1 (by omega)
      · rw [lo4 r (.inr (by omega)), hi3 r (by omega)]
        exact hr r (by omega) h2
theorem fix_out {t : List Ins} (ht : PValid t) (hn : rn t ≤ 31) {c x z : Tr} {K k : Nat} (hc : (tx c).length ≤ 2000000) (h : out t K (first c) = .ok z k) (hz : (tx (.pair z x)).length ≤ 2000000) (F : Nat) :
    out (fixL t) (k + rn t + 3 + F) (first (.pair c x)) = (out univL F (first (.pair z x))).later (k + rn t + 3) := by
  obtain ⟨s, hs, hst⟩ := fix_ok ht hn hc h hz
  have cc : fixL t = fixA t ++ univL ++ [] := by rw [fixL_a, List.append_nil]
  have hsim := hst.sim (Nat.le_refl _)
  have hf := first_ok univL.length hz
  have hm : regs univL ≤ (32 : Nat) := regs_le univL_valid
  rw [out_steps hs]
  congr 1
  cases ho : out univL F (first (.pair z x)) with
  | ok y j =>
    obtain ⟨h1, u, h2, h3, h4, h5, h6⟩ := part_ok cc univL_valid hm hsim hf ho
    rw [out_end h2 h1 (by rw [h3, cc]; simp only [List.length_append, List.length_nil]; omega)]
    congr 1
    exact reg_of (n := 0) rfl h5
  | size => exact part_size cc univL_valid hm hsim hf ho
  | fuel => exact part_fuel cc univL_valid hm hsim hf ho
/-- where the transformation returns nothing, Fix returns nothing -/
theorem fix_nothing {t : List Ins} (ht : PValid t) (hn : rn t ≤ 31) {c x : Tr} (hc : (tx c).length ≤ 2000000) (h : ∀ z k, out t 5000 (first c) ≠ .ok z k) (L : Nat) (hL : L ≤ 5002) (z : Tr) (k : Nat) :
    out (fixL t) L (first (.pair c x)) ≠ .ok z k := by
  obtain ⟨s2, k2, hst, _, _⟩ := fix_begin (t := t) hn (c := c) (x := x)
  have hsim := hst.sim (by omega)
  have hm : regs t ≤ (rn t : Int) := by rw [rn_eq]; exact Int.le_refl _
  cases ho : out t 5000 (first c) with
  | ok z k => exact absurd ho (h z k)
  | size =>
    have h1 := part_size (A := [tailI (rn t) 0, headI 0 0]) (fix_mid t) ht hm hsim (first_ok _ hc) ho
    have h2 : out (fixL t) (2 + 5000) (first (.pair c x)) = .size := by rw [out_steps k2, h1]; rfl
    exact size_never h2 L z k
  | fuel =>
    have h1 := part_fuel (A := [tailI (rn t) 0, headI 0 0]) (fix_mid t) ht hm hsim (first_ok _ hc) ho
    have h2 : out (fixL t) (2 + 5000) (first (.pair c x)) = .fuel := by rw [out_steps k2, h1]; rfl
    rw [out_less h2 hL]; intro h; cases h
/-- just before the universal program Fix has not ended -/
theorem fix_waits {t : List Ins} (ht : PValid t) (hn : rn t ≤ 31) {c x z : Tr} {K k : Nat} (hc : (tx c).length ≤ 2000000) (h : out t K (first c) = .ok z k) (hz : (tx (.pair z x)).length ≤ 2000000) :
    out (fixL t) (k + rn t + 3) (first (.pair c x)) = .fuel := by
  obtain ⟨s, hs, hst⟩ := fix_ok ht hn hc h hz
  refine out_fuel hs ?_
  rw [hst.here.1, fixL_a, List.length_append, univL_len]
  omega
theorem later_ne {o : Out} {m : Nat} (h : ∀ z k, o ≠ .ok z k) (z : Tr) (k : Nat) : o.later m ≠ .ok z k := by
  cases o with
  | ok y j => exact absurd rfl (h y j)
  | size => intro h; cases h
  | fuel => intro h; cases h
/-- ROGERS: what the universal program does for a program whose registers stay small -/
theorem univ_out {q : List Ins} (hq : PValid q) {x z : Tr} {j : Nat} (hc : (tx (.pair (lst (codeL q)) x)).length ≤ 200000) (hx : (tx x).length ≤ 100000) (h : out q 60 (first x) = .ok z j) (hg : ∀ i s, 1 ≤ i → i ≤ 60 → Steps q (first x) i s → totT s.regs ≤ 200000) :
    ∃ n, out univL (100 * (q.length + 40) * (j + 1)) (first (.pair (lst (codeL q)) x)) = .ok z n := by
  obtain ⟨st, h1, h2, h3, h4⟩ := out_ok h
  have hT : ∀ i s, i ≤ j → Steps q (first x) i s → totT s.regs ≤ 200000 := fun i s hi hs => by
    rcases Nat.eq_zero_or_pos i with rfl | h0
    · cases hs
      rw [tot_first]; omega
    · exact hg i s h0 (by omega) hs
  rcases runs_math hq (by omega) h1 h3 hT rfl with ⟨v, k, r1, r2, r3⟩ | ⟨r1, _⟩
  · refine ⟨k, ?_⟩
    unfold out
    rw [r1]
    simp only [if_pos r2, r3, h4]
  · omega
end Go.Proofs.YtmhoacnbmbhcjaaGreatDoor
