/- The run of the program that finds Spec: mathematics. By an AI agent. -/
import Derived.Test.YtmhoacnbmbhcjaaGreatDoorKnowO
namespace Go.Proofs.YtmhoacnbmbhcjaaGreatDoor
open Go.RowKit Pl

def metaL : List Ins := [headI 1 0, tailI 0 0, setI 2 sec3, consI 1 2 1, setI 2 sec2, consI 1 2 1, setI 2 [49, 48, 48], consI 0 2 0, setI 2 [48], consI 0 2 0, consI 0 0 1]
theorem metaL_allR : AllR metaL := by
  have h : ((List.range 11).all fun k => match metaL[k]? with | some x => right x (k : Int) (11 : Int) | none => true) = true := by kernel_rfl
  intro k x hx
  have hk : k < 11 := by have := (List.getElem?_eq_some_iff.1 hx).1; exact this
  have h2 := List.all_eq_true.1 h k (List.mem_range.2 hk)
  rw [hx] at h2
  exact h2
theorem metaL_valid : PValid metaL := (fits_valid metaL_allR).2 ⟨by decide, by decide⟩
/-- what Meta's program returns on the pair of two trees -/
noncomputable def listT (t d : Tr) : Tr := .pair (.pair .nil (.pair oneT d)) (.pair s2T (.pair s3T t))
theorem sz_one : (tx oneT).length = 3 := rfl
theorem sz_s2 : (tx s2T).length = 13 := by rw [tx_s2]; rfl
theorem sz_s3 : (tx s3T).length = 7 := by rw [tx_s3]; rfl
theorem listT_size (t d : Tr) : (tx (listT t d)).length = 29 + (tx t).length + (tx d).length := by
  have z2 : (tx (listT t d)).length = 1 + (tx (.pair .nil (.pair oneT d))).length + (tx (.pair s2T (.pair s3T t))).length := tx_pair _ _
  have z3 := tx_pair .nil (.pair oneT d)
  have z4 := tx_pair oneT d
  have z5 := tx_pair s2T (.pair s3T t)
  have z6 := tx_pair s3T t
  have z7 : (tx Tr.nil).length = 1 := rfl
  have := sz_one; have := sz_s2; have := sz_s3
  omega
theorem meta_out (t d : Tr) (hp : (tx (.pair t d)).length ≤ 2000000) : (out metaL 100 (first (.pair t d)) = .ok (listT t d) 11 ∧ (tx (listT t d)).length ≤ 2000000) ∨ (out metaL 100 (first (.pair t d)) = .size ∧ 1999000 < (tx (.pair t d)).length) := by
  have z0 := tx_pair t d
  have z1 := listT_size t d
  have z3 := tx_pair .nil (.pair oneT d)
  have z4 := tx_pair oneT d
  have z5 := tx_pair s2T (.pair s3T t)
  have z6 := tx_pair s3T t
  have z7 : (tx Tr.nil).length = 1 := rfl
  have y1 := sz_one; have y2 := sz_s2; have y3 := sz_s3
  have st0 := start_first (.pair t d) 32 (Nat.le_refl _)
  generalize hs0 : first (.pair t d) = s0 at *
  have a0 : At 0 s0 := st0.here
  obtain ⟨s1, k1, a1, v1, m1⟩ := do_head (show metaL = ([] : List Ins) ++ headI 1 0 :: ([tailI 0 0, setI 2 sec3, consI 1 2 1, setI 2 sec2, consI 1 2 1, setI 2 [49, 48, 48], consI 0 2 0, setI 2 [48], consI 0 2 0, consI 0 0 1] : List Ins) from rfl) a0 (n := 1) (k := 0) rfl (by decide) rfl (st0.r0)
  have v1 : s1.regs[1]? = some (t) := v1
  have a1 : At 1 s1 := a1
  obtain ⟨s2, k2, a2, v2, m2⟩ := do_tail (show metaL = ([headI 1 0] : List Ins) ++ tailI 0 0 :: ([setI 2 sec3, consI 1 2 1, setI 2 sec2, consI 1 2 1, setI 2 [49, 48, 48], consI 0 2 0, setI 2 [48], consI 0 2 0, consI 0 0 1] : List Ins) from rfl) a1 (n := 0) (k := 0) rfl (by decide) rfl (by rw [m1 0 (by decide)]; exact st0.r0)
  have v2 : s2.regs[0]? = some (d) := v2
  have a2 : At 2 s2 := a2
  obtain ⟨s3, k3, a3, v3, m3⟩ := do_set (show metaL = ([headI 1 0, tailI 0 0] : List Ins) ++ setI 2 sec3 :: ([consI 1 2 1, setI 2 sec2, consI 1 2 1, setI 2 [49, 48, 48], consI 0 2 0, setI 2 [48], consI 0 2 0, consI 0 0 1] : List Ins) from rfl) a2 (n := 2) rfl (by decide)
  rw [rd_sec3] at v3
  have v3 : s3.regs[2]? = some (s3T) := v3
  have a3 : At 3 s3 := a3
  by_cases c4 : (tx (.pair (s3T) (t))).length ≤ 2000000
  case neg =>
    obtain ⟨n1, n2⟩ := no_cons (show metaL = ([headI 1 0, tailI 0 0, setI 2 sec3] : List Ins) ++ consI 1 2 1 :: ([setI 2 sec2, consI 1 2 1, setI 2 [49, 48, 48], consI 0 2 0, setI 2 [48], consI 0 2 0, consI 0 0 1] : List Ins) from rfl) a3 (k := 2) (l := 1) rfl rfl (v3) (by rw [m3 1 (by decide), m2 1 (by decide)]; exact v1) (show 2000000 < (tx (.pair (s3T) (t))).length by omega)
    exact .inr ⟨out_large ((k1.then k2).then k3) (by decide) n1 n2, by omega⟩
  obtain ⟨s4, k4, a4, v4, m4⟩ := do_cons (show metaL = ([headI 1 0, tailI 0 0, setI 2 sec3] : List Ins) ++ consI 1 2 1 :: ([setI 2 sec2, consI 1 2 1, setI 2 [49, 48, 48], consI 0 2 0, setI 2 [48], consI 0 2 0, consI 0 0 1] : List Ins) from rfl) a3 (n := 1) (k := 2) (l := 1) rfl (by decide) rfl rfl (v3) (by rw [m3 1 (by decide), m2 1 (by decide)]; exact v1) c4
  have v4 : s4.regs[1]? = some (.pair (s3T) (t)) := v4
  have a4 : At 4 s4 := a4
  obtain ⟨s5, k5, a5, v5, m5⟩ := do_set (show metaL = ([headI 1 0, tailI 0 0, setI 2 sec3, consI 1 2 1] : List Ins) ++ setI 2 sec2 :: ([consI 1 2 1, setI 2 [49, 48, 48], consI 0 2 0, setI 2 [48], consI 0 2 0, consI 0 0 1] : List Ins) from rfl) a4 (n := 2) rfl (by decide)
  rw [rd_sec2] at v5
  have v5 : s5.regs[2]? = some (s2T) := v5
  have a5 : At 5 s5 := a5
  by_cases c6 : (tx (.pair (s2T) (.pair (s3T) (t)))).length ≤ 2000000
  case neg =>
    obtain ⟨n1, n2⟩ := no_cons (show metaL = ([headI 1 0, tailI 0 0, setI 2 sec3, consI 1 2 1, setI 2 sec2] : List Ins) ++ consI 1 2 1 :: ([setI 2 [49, 48, 48], consI 0 2 0, setI 2 [48], consI 0 2 0, consI 0 0 1] : List Ins) from rfl) a5 (k := 2) (l := 1) rfl rfl (v5) (by rw [m5 1 (by decide)]; exact v4) (show 2000000 < (tx (.pair (s2T) (.pair (s3T) (t)))).length by omega)
    exact .inr ⟨out_large ((((k1.then k2).then k3).then k4).then k5) (by decide) n1 n2, by omega⟩
  obtain ⟨s6, k6, a6, v6, m6⟩ := do_cons (show metaL = ([headI 1 0, tailI 0 0, setI 2 sec3, consI 1 2 1, setI 2 sec2] : List Ins) ++ consI 1 2 1 :: ([setI 2 [49, 48, 48], consI 0 2 0, setI 2 [48], consI 0 2 0, consI 0 0 1] : List Ins) from rfl) a5 (n := 1) (k := 2) (l := 1) rfl (by decide) rfl rfl (v5) (by rw [m5 1 (by decide)]; exact v4) c6
  have v6 : s6.regs[1]? = some (.pair (s2T) (.pair (s3T) (t))) := v6
  have a6 : At 6 s6 := a6
  obtain ⟨s7, k7, a7, v7, m7⟩ := do_set (show metaL = ([headI 1 0, tailI 0 0, setI 2 sec3, consI 1 2 1, setI 2 sec2, consI 1 2 1] : List Ins) ++ setI 2 [49, 48, 48] :: ([consI 0 2 0, setI 2 [48], consI 0 2 0, consI 0 0 1] : List Ins) from rfl) a6 (n := 2) rfl (by decide)
  rw [rd_oneT] at v7
  have v7 : s7.regs[2]? = some (oneT) := v7
  have a7 : At 7 s7 := a7
  by_cases c8 : (tx (.pair (oneT) (d))).length ≤ 2000000
  case neg =>
    obtain ⟨n1, n2⟩ := no_cons (show metaL = ([headI 1 0, tailI 0 0, setI 2 sec3, consI 1 2 1, setI 2 sec2, consI 1 2 1, setI 2 [49, 48, 48]] : List Ins) ++ consI 0 2 0 :: ([setI 2 [48], consI 0 2 0, consI 0 0 1] : List Ins) from rfl) a7 (k := 2) (l := 0) rfl rfl (v7) (by rw [m7 0 (by decide), m6 0 (by decide), m5 0 (by decide), m4 0 (by decide), m3 0 (by decide)]; exact v2) (show 2000000 < (tx (.pair (oneT) (d))).length by omega)
    exact .inr ⟨out_large ((((((k1.then k2).then k3).then k4).then k5).then k6).then k7) (by decide) n1 n2, by omega⟩
  obtain ⟨s8, k8, a8, v8, m8⟩ := do_cons (show metaL = ([headI 1 0, tailI 0 0, setI 2 sec3, consI 1 2 1, setI 2 sec2, consI 1 2 1, setI 2 [49, 48, 48]] : List Ins) ++ consI 0 2 0 :: ([setI 2 [48], consI 0 2 0, consI 0 0 1] : List Ins) from rfl) a7 (n := 0) (k := 2) (l := 0) rfl (by decide) rfl rfl (v7) (by rw [m7 0 (by decide), m6 0 (by decide), m5 0 (by decide), m4 0 (by decide), m3 0 (by decide)]; exact v2) c8
  have v8 : s8.regs[0]? = some (.pair (oneT) (d)) := v8
  have a8 : At 8 s8 := a8
  obtain ⟨s9, k9, a9, v9, m9⟩ := do_set (show metaL = ([headI 1 0, tailI 0 0, setI 2 sec3, consI 1 2 1, setI 2 sec2, consI 1 2 1, setI 2 [49, 48, 48], consI 0 2 0] : List Ins) ++ setI 2 [48] :: ([consI 0 2 0, consI 0 0 1] : List Ins) from rfl) a8 (n := 2) rfl (by decide)
  rw [rdp_0] at v9
  have v9 : s9.regs[2]? = some (.nil) := v9
  have a9 : At 9 s9 := a9
  by_cases c10 : (tx (.pair (.nil) (.pair (oneT) (d)))).length ≤ 2000000
  case neg =>
    obtain ⟨n1, n2⟩ := no_cons (show metaL = ([headI 1 0, tailI 0 0, setI 2 sec3, consI 1 2 1, setI 2 sec2, consI 1 2 1, setI 2 [49, 48, 48], consI 0 2 0, setI 2 [48]] : List Ins) ++ consI 0 2 0 :: ([consI 0 0 1] : List Ins) from rfl) a9 (k := 2) (l := 0) rfl rfl (v9) (by rw [m9 0 (by decide)]; exact v8) (show 2000000 < (tx (.pair (.nil) (.pair (oneT) (d)))).length by omega)
    exact .inr ⟨out_large ((((((((k1.then k2).then k3).then k4).then k5).then k6).then k7).then k8).then k9) (by decide) n1 n2, by omega⟩
  obtain ⟨s10, k10, a10, v10, m10⟩ := do_cons (show metaL = ([headI 1 0, tailI 0 0, setI 2 sec3, consI 1 2 1, setI 2 sec2, consI 1 2 1, setI 2 [49, 48, 48], consI 0 2 0, setI 2 [48]] : List Ins) ++ consI 0 2 0 :: ([consI 0 0 1] : List Ins) from rfl) a9 (n := 0) (k := 2) (l := 0) rfl (by decide) rfl rfl (v9) (by rw [m9 0 (by decide)]; exact v8) c10
  have v10 : s10.regs[0]? = some (.pair (.nil) (.pair (oneT) (d))) := v10
  have a10 : At 10 s10 := a10
  by_cases c11 : (tx (listT t d)).length ≤ 2000000
  case neg =>
    obtain ⟨n1, n2⟩ := no_cons (show metaL = ([headI 1 0, tailI 0 0, setI 2 sec3, consI 1 2 1, setI 2 sec2, consI 1 2 1, setI 2 [49, 48, 48], consI 0 2 0, setI 2 [48], consI 0 2 0] : List Ins) ++ consI 0 0 1 :: ([] : List Ins) from rfl) a10 (k := 0) (l := 1) rfl rfl (v10) (by rw [m10 1 (by decide), m9 1 (by decide), m8 1 (by decide), m7 1 (by decide)]; exact v6) (show 2000000 < (tx (listT t d)).length by omega)
    exact .inr ⟨out_large (((((((((k1.then k2).then k3).then k4).then k5).then k6).then k7).then k8).then k9).then k10) (by decide) n1 n2, by omega⟩
  obtain ⟨s11, k11, a11, v11, m11⟩ := do_cons (show metaL = ([headI 1 0, tailI 0 0, setI 2 sec3, consI 1 2 1, setI 2 sec2, consI 1 2 1, setI 2 [49, 48, 48], consI 0 2 0, setI 2 [48], consI 0 2 0] : List Ins) ++ consI 0 0 1 :: ([] : List Ins) from rfl) a10 (n := 0) (k := 0) (l := 1) rfl (by decide) rfl rfl (v10) (by rw [m10 1 (by decide), m9 1 (by decide), m8 1 (by decide), m7 1 (by decide)]; exact v6) c11
  have v11 : s11.regs[0]? = some (.pair (.pair (.nil) (.pair (oneT) (d))) (.pair (s2T) (.pair (s3T) (t)))) := v11
  have a11 : At 11 s11 := a11
  refine .inl ⟨?_, c11⟩
  rw [out_end ((((((((((k1.then k2).then k3).then k4).then k5).then k6).then k7).then k8).then k9).then k10).then k11) (by decide) a11.1]
  congr 1
  exact reg_of (n := 0) rfl v11
end Go.Proofs.YtmhoacnbmbhcjaaGreatDoor
