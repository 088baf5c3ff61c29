/- The run of a program that knows its code: mathematics. By an AI agent. -/
import Derived.Test.YtmhoacnbmbhcjaaGreatDoorRecog
import Derived.Test.YtmhoacnbmbhcjaaGreatDoorUnv
namespace Go.Proofs.YtmhoacnbmbhcjaaGreatDoor
open Go.RowKit Pl

theorem do_head {A B cs : List Ins} {a b : Int} (hc : cs = A ++ headI a b :: B) {s : St} (ha : At A.length s) {n k : Nat} (hn : a = (n : Int)) (hlt : n < 32) (hk : b = (k : Int)) {t : Tr} (ht : s.regs[k]? = some t) :
    ∃ s', Steps cs s 1 s' ∧ At (A.length + 1) s' ∧ s'.regs[n]? = some (hdT t) ∧ ∀ r, r ≠ n → s'.regs[r]? = s.regs[r]? :=
  do_put hc ha hn hlt (by simp only [stepI, headI]; simp [reg_of hk ht])
theorem do_tail {A B cs : List Ins} {a b : Int} (hc : cs = A ++ tailI a b :: B) {s : St} (ha : At A.length s) {n k : Nat} (hn : a = (n : Int)) (hlt : n < 32) (hk : b = (k : Int)) {t : Tr} (ht : s.regs[k]? = some t) :
    ∃ s', Steps cs s 1 s' ∧ At (A.length + 1) s' ∧ s'.regs[n]? = some (tlT t) ∧ ∀ r, r ≠ n → s'.regs[r]? = s.regs[r]? :=
  do_put hc ha hn hlt (by simp only [stepI, tailI]; simp [reg_of hk ht])
def oneT : Tr := .pair .nil .nil
noncomputable def s2T : Tr := codeT (consI 0 1 0)
noncomputable def s3T : Tr := codeT (setI 1 [48])
theorem rd_oneT : rd [49, 48, 48] = oneT := by rw [show ([49, 48, 48] : List UInt8) = tx oneT from rfl, rd_tx]
theorem tx_s2 : tx s2T = sec2 := by
  unfold s2T
  rw [tx_codeT (i := 0) (n := 1) (right_cons (by omega) (by omega) (by omega) (by omega) (by omega) (by omega))]
  rfl
theorem tx_s3 : tx s3T = sec3 := by
  unfold s3T
  rw [tx_codeT (i := 0) (n := 1) (right_set (by omega) (by omega) vld_0)]
  rfl
theorem rd_sec2 : rd sec2 = s2T := by rw [← tx_s2, rd_tx]
theorem rd_sec3 : rd sec3 = s3T := by rw [← tx_s3, rd_tx]
/-- the code of what Spec makes -/
noncomputable def bigT (y : Tr) : Tr := .pair (.pair .nil (.pair oneT y)) (.pair s2T (.pair s3T y))
theorem codeT_supply (y : Tr) : codeT (setI 1 (tx y)) = .pair .nil (.pair oneT y) := by
  show Tr.pair (numT (0 : Int).toNat) (.pair (numT (1 : Int).toNat) (payT (setI 1 (tx y)))) = _
  have : payT (setI 1 (tx y)) = y := by
    show (if (0 : Int) = 0 then rd (tx y) else _) = y
    rw [if_pos rfl, rd_tx]
  rw [this]; rfl
theorem lst_spec (p : List Ins) (y : Tr) : lst (codeL (specL p (tx y))) = .pair (.pair .nil (.pair oneT y)) (.pair s2T (.pair s3T (lst (codeL p)))) := by
  show Tr.pair (codeT (setI 1 (tx y))) (.pair (codeT (consI 0 1 0)) (.pair (codeT (setI 1 [48])) (lst (codeL p)))) = _
  rw [codeT_supply]; rfl
theorem rec_steps (q : List Ins) (y x : Tr) (hz : (tx (.pair (bigT y) x)).length ≤ 2000000) :
    ∃ s, Steps (rL q) (first (.pair y x)) 16 s ∧ Start 16 32 (.pair (bigT y) x) s := by
  have z1 := tx_pair (bigT y) x
  have z2 : (tx (bigT y)).length = 1 + (tx (.pair .nil (.pair oneT y))).length + (tx (.pair s2T (.pair s3T y))).length := tx_pair _ _
  have z3 := tx_pair .nil (.pair oneT y)
  have z4 := tx_pair oneT y
  have z5 := tx_pair s2T (.pair s3T y)
  have z6 := tx_pair s3T y
  have st0 := start_first (.pair y x) 32 (Nat.le_refl _)
  generalize hs0 : first (.pair y x) = s0 at *
  have g0 : ∀ r, 1 ≤ r → r < 32 → s0.regs[r]? = some .nil := st0.rest
  have a0 : At 0 s0 := st0.here
  obtain ⟨s1, k1, a1, v1, m1⟩ := do_head (show rL q = ([] : List Ins) ++ headI 2 0 :: (([tailI 3 0, setI 4 [49, 48, 48], consI 4 4 2, consI 4 1 4, setI 5 sec3, consI 5 5 2, setI 6 sec2, consI 5 6 5, consI 5 4 5, consI 0 5 3, setI 2 [48], setI 3 [48], setI 4 [48], setI 5 [48], setI 6 [48]] : List Ins) ++ q) from rfl) a0 (n := 2) (k := 0) rfl (by decide) rfl (st0.r0)
  have v1 : s1.regs[2]? = some (y) := v1
  have a1 : At 1 s1 := a1
  obtain ⟨s2, k2, a2, v2, m2⟩ := do_tail (show rL q = ([headI 2 0] : List Ins) ++ tailI 3 0 :: (([setI 4 [49, 48, 48], consI 4 4 2, consI 4 1 4, setI 5 sec3, consI 5 5 2, setI 6 sec2, consI 5 6 5, consI 5 4 5, consI 0 5 3, setI 2 [48], setI 3 [48], setI 4 [48], setI 5 [48], setI 6 [48]] : List Ins) ++ q) from rfl) a1 (n := 3) (k := 0) rfl (by decide) rfl (by rw [m1 0 (by decide)]; exact st0.r0)
  have v2 : s2.regs[3]? = some (x) := v2
  have a2 : At 2 s2 := a2
  obtain ⟨s3, k3, a3, v3, m3⟩ := do_set (show rL q = ([headI 2 0, tailI 3 0] : List Ins) ++ setI 4 [49, 48, 48] :: (([consI 4 4 2, consI 4 1 4, setI 5 sec3, consI 5 5 2, setI 6 sec2, consI 5 6 5, consI 5 4 5, consI 0 5 3, setI 2 [48], setI 3 [48], setI 4 [48], setI 5 [48], setI 6 [48]] : List Ins) ++ q) from rfl) a2 (n := 4) rfl (by decide)
  rw [rd_oneT] at v3
  have v3 : s3.regs[4]? = some (oneT) := v3
  have a3 : At 3 s3 := a3
  obtain ⟨s4, k4, a4, v4, m4⟩ := do_cons (show rL q = ([headI 2 0, tailI 3 0, setI 4 [49, 48, 48]] : List Ins) ++ consI 4 4 2 :: (([consI 4 1 4, setI 5 sec3, consI 5 5 2, setI 6 sec2, consI 5 6 5, consI 5 4 5, consI 0 5 3, setI 2 [48], setI 3 [48], setI 4 [48], setI 5 [48], setI 6 [48]] : List Ins) ++ q) from rfl) a3 (n := 4) (k := 4) (l := 2) rfl (by decide) rfl rfl (v3) (by rw [m3 2 (by decide), m2 2 (by decide)]; exact v1) (by first | omega | (show (tx (.pair (bigT y) x)).length ≤ 2000000; omega) | (show (tx (bigT y)).length ≤ 2000000; omega))
  have v4 : s4.regs[4]? = some (.pair (oneT) (y)) := v4
  have a4 : At 4 s4 := a4
  obtain ⟨s5, k5, a5, v5, m5⟩ := do_cons (show rL q = ([headI 2 0, tailI 3 0, setI 4 [49, 48, 48], consI 4 4 2] : List Ins) ++ consI 4 1 4 :: (([setI 5 sec3, consI 5 5 2, setI 6 sec2, consI 5 6 5, consI 5 4 5, consI 0 5 3, setI 2 [48], setI 3 [48], setI 4 [48], setI 5 [48], setI 6 [48]] : List Ins) ++ q) from rfl) a4 (n := 4) (k := 1) (l := 4) rfl (by decide) rfl rfl (by rw [m4 1 (by decide), m3 1 (by decide), m2 1 (by decide), m1 1 (by decide)]; exact g0 1 (by decide) (by decide)) (v4) (by first | omega | (show (tx (.pair (bigT y) x)).length ≤ 2000000; omega) | (show (tx (bigT y)).length ≤ 2000000; omega))
  have v5 : s5.regs[4]? = some (.pair (.nil) (.pair (oneT) (y))) := v5
  have a5 : At 5 s5 := a5
  obtain ⟨s6, k6, a6, v6, m6⟩ := do_set (show rL q = ([headI 2 0, tailI 3 0, setI 4 [49, 48, 48], consI 4 4 2, consI 4 1 4] : List Ins) ++ setI 5 sec3 :: (([consI 5 5 2, setI 6 sec2, consI 5 6 5, consI 5 4 5, consI 0 5 3, setI 2 [48], setI 3 [48], setI 4 [48], setI 5 [48], setI 6 [48]] : List Ins) ++ q) from rfl) a5 (n := 5) rfl (by decide)
  rw [rd_sec3] at v6
  have v6 : s6.regs[5]? = some (s3T) := v6
  have a6 : At 6 s6 := a6
  obtain ⟨s7, k7, a7, v7, m7⟩ := do_cons (show rL q = ([headI 2 0, tailI 3 0, setI 4 [49, 48, 48], consI 4 4 2, consI 4 1 4, setI 5 sec3] : List Ins) ++ consI 5 5 2 :: (([setI 6 sec2, consI 5 6 5, consI 5 4 5, consI 0 5 3, setI 2 [48], setI 3 [48], setI 4 [48], setI 5 [48], setI 6 [48]] : List Ins) ++ q) from rfl) a6 (n := 5) (k := 5) (l := 2) rfl (by decide) rfl rfl (v6) (by rw [m6 2 (by decide), m5 2 (by decide), m4 2 (by decide), m3 2 (by decide), m2 2 (by decide)]; exact v1) (by first | omega | (show (tx (.pair (bigT y) x)).length ≤ 2000000; omega) | (show (tx (bigT y)).length ≤ 2000000; omega))
  have v7 : s7.regs[5]? = some (.pair (s3T) (y)) := v7
  have a7 : At 7 s7 := a7
  obtain ⟨s8, k8, a8, v8, m8⟩ := do_set (show rL q = ([headI 2 0, tailI 3 0, setI 4 [49, 48, 48], consI 4 4 2, consI 4 1 4, setI 5 sec3, consI 5 5 2] : List Ins) ++ setI 6 sec2 :: (([consI 5 6 5, consI 5 4 5, consI 0 5 3, setI 2 [48], setI 3 [48], setI 4 [48], setI 5 [48], setI 6 [48]] : List Ins) ++ q) from rfl) a7 (n := 6) rfl (by decide)
  rw [rd_sec2] at v8
  have v8 : s8.regs[6]? = some (s2T) := v8
  have a8 : At 8 s8 := a8
  obtain ⟨s9, k9, a9, v9, m9⟩ := do_cons (show rL q = ([headI 2 0, tailI 3 0, setI 4 [49, 48, 48], consI 4 4 2, consI 4 1 4, setI 5 sec3, consI 5 5 2, setI 6 sec2] : List Ins) ++ consI 5 6 5 :: (([consI 5 4 5, consI 0 5 3, setI 2 [48], setI 3 [48], setI 4 [48], setI 5 [48], setI 6 [48]] : List Ins) ++ q) from rfl) a8 (n := 5) (k := 6) (l := 5) rfl (by decide) rfl rfl (v8) (by rw [m8 5 (by decide)]; exact v7) (by first | omega | (show (tx (.pair (bigT y) x)).length ≤ 2000000; omega) | (show (tx (bigT y)).length ≤ 2000000; omega))
  have v9 : s9.regs[5]? = some (.pair (s2T) (.pair (s3T) (y))) := v9
  have a9 : At 9 s9 := a9
  obtain ⟨s10, k10, a10, v10, m10⟩ := do_cons (show rL q = ([headI 2 0, tailI 3 0, setI 4 [49, 48, 48], consI 4 4 2, consI 4 1 4, setI 5 sec3, consI 5 5 2, setI 6 sec2, consI 5 6 5] : List Ins) ++ consI 5 4 5 :: (([consI 0 5 3, setI 2 [48], setI 3 [48], setI 4 [48], setI 5 [48], setI 6 [48]] : List Ins) ++ q) from rfl) a9 (n := 5) (k := 4) (l := 5) rfl (by decide) rfl rfl (by rw [m9 4 (by decide), m8 4 (by decide), m7 4 (by decide), m6 4 (by decide)]; exact v5) (v9) (by first | omega | (show (tx (.pair (bigT y) x)).length ≤ 2000000; omega) | (show (tx (bigT y)).length ≤ 2000000; omega))
  have v10 : s10.regs[5]? = some (.pair (.pair (.nil) (.pair (oneT) (y))) (.pair (s2T) (.pair (s3T) (y)))) := v10
  have a10 : At 10 s10 := a10
  obtain ⟨s11, k11, a11, v11, m11⟩ := do_cons (show rL q = ([headI 2 0, tailI 3 0, setI 4 [49, 48, 48], consI 4 4 2, consI 4 1 4, setI 5 sec3, consI 5 5 2, setI 6 sec2, consI 5 6 5, consI 5 4 5] : List Ins) ++ consI 0 5 3 :: (([setI 2 [48], setI 3 [48], setI 4 [48], setI 5 [48], setI 6 [48]] : List Ins) ++ q) from rfl) a10 (n := 0) (k := 5) (l := 3) rfl (by decide) rfl rfl (v10) (by rw [m10 3 (by decide), m9 3 (by decide), m8 3 (by decide), m7 3 (by decide), m6 3 (by decide), m5 3 (by decide), m4 3 (by decide), m3 3 (by decide)]; exact v2) (by first | omega | (show (tx (.pair (bigT y) x)).length ≤ 2000000; omega) | (show (tx (bigT y)).length ≤ 2000000; omega))
  have v11 : s11.regs[0]? = some (.pair (.pair (.pair (.nil) (.pair (oneT) (y))) (.pair (s2T) (.pair (s3T) (y)))) (x)) := v11
  have a11 : At 11 s11 := a11
  obtain ⟨s12, k12, a12, v12, m12⟩ := do_set (show rL q = ([headI 2 0, tailI 3 0, setI 4 [49, 48, 48], consI 4 4 2, consI 4 1 4, setI 5 sec3, consI 5 5 2, setI 6 sec2, consI 5 6 5, consI 5 4 5, consI 0 5 3] : List Ins) ++ setI 2 [48] :: (([setI 3 [48], setI 4 [48], setI 5 [48], setI 6 [48]] : List Ins) ++ q) from rfl) a11 (n := 2) rfl (by decide)
  rw [rdp_0] at v12
  have v12 : s12.regs[2]? = some (.nil) := v12
  have a12 : At 12 s12 := a12
  obtain ⟨s13, k13, a13, v13, m13⟩ := do_set (show rL q = ([headI 2 0, tailI 3 0, setI 4 [49, 48, 48], consI 4 4 2, consI 4 1 4, setI 5 sec3, consI 5 5 2, setI 6 sec2, consI 5 6 5, consI 5 4 5, consI 0 5 3, setI 2 [48]] : List Ins) ++ setI 3 [48] :: (([setI 4 [48], setI 5 [48], setI 6 [48]] : List Ins) ++ q) from rfl) a12 (n := 3) rfl (by decide)
  rw [rdp_0] at v13
  have v13 : s13.regs[3]? = some (.nil) := v13
  have a13 : At 13 s13 := a13
  obtain ⟨s14, k14, a14, v14, m14⟩ := do_set (show rL q = ([headI 2 0, tailI 3 0, setI 4 [49, 48, 48], consI 4 4 2, consI 4 1 4, setI 5 sec3, consI 5 5 2, setI 6 sec2, consI 5 6 5, consI 5 4 5, consI 0 5 3, setI 2 [48], setI 3 [48]] : List Ins) ++ setI 4 [48] :: (([setI 5 [48], setI 6 [48]] : List Ins) ++ q) from rfl) a13 (n := 4) rfl (by decide)
  rw [rdp_0] at v14
  have v14 : s14.regs[4]? = some (.nil) := v14
  have a14 : At 14 s14 := a14
  obtain ⟨s15, k15, a15, v15, m15⟩ := do_set (show rL q = ([headI 2 0, tailI 3 0, setI 4 [49, 48, 48], consI 4 4 2, consI 4 1 4, setI 5 sec3, consI 5 5 2, setI 6 sec2, consI 5 6 5, consI 5 4 5, consI 0 5 3, setI 2 [48], setI 3 [48], setI 4 [48]] : List Ins) ++ setI 5 [48] :: (([setI 6 [48]] : List Ins) ++ q) from rfl) a14 (n := 5) rfl (by decide)
  rw [rdp_0] at v15
  have v15 : s15.regs[5]? = some (.nil) := v15
  have a15 : At 15 s15 := a15
  obtain ⟨s16, k16, a16, v16, m16⟩ := do_set (show rL q = ([headI 2 0, tailI 3 0, setI 4 [49, 48, 48], consI 4 4 2, consI 4 1 4, setI 5 sec3, consI 5 5 2, setI 6 sec2, consI 5 6 5, consI 5 4 5, consI 0 5 3, setI 2 [48], setI 3 [48], setI 4 [48], setI 5 [48]] : List Ins) ++ setI 6 [48] :: (([] : List Ins) ++ q) from rfl) a15 (n := 6) rfl (by decide)
  rw [rdp_0] at v16
  have v16 : s16.regs[6]? = some (.nil) := v16
  have a16 : At 16 s16 := a16
  refine ⟨s16, (((((((((((((((k1.then k2).then k3).then k4).then k5).then k6).then k7).then k8).then k9).then k10).then k11).then k12).then k13).then k14).then k15).then k16), a16, (by rw [m16 0 (by decide), m15 0 (by decide), m14 0 (by decide), m13 0 (by decide), m12 0 (by decide)]; exact v11), fun r h1 h2 => ?_⟩
  by_cases e2 : r = 2
  · subst e2; exact (by rw [m16 2 (by decide), m15 2 (by decide), m14 2 (by decide), m13 2 (by decide)]; exact v12)
  by_cases e3 : r = 3
  · subst e3; exact (by rw [m16 3 (by decide), m15 3 (by decide), m14 3 (by decide)]; exact v13)
  by_cases e4 : r = 4
  · subst e4; exact (by rw [m16 4 (by decide), m15 4 (by decide)]; exact v14)
  by_cases e5 : r = 5
  · subst e5; exact (by rw [m16 5 (by decide)]; exact v15)
  by_cases e6 : r = 6
  · subst e6; exact (v16)
  by_cases e0 : r = 0
  · omega
  rw [m16 r (by omega), m15 r (by omega), m14 r (by omega), m13 r (by omega), m12 r (by omega), m11 r (by omega), m10 r (by omega), m9 r (by omega), m8 r (by omega), m7 r (by omega), m6 r (by omega), m5 r (by omega), m4 r (by omega), m3 r (by omega), m2 r (by omega), m1 r (by omega)]
  exact g0 r h1 h2
theorem rec_out {q : List Ins} (hq : PValid q) {y x : Tr} (hz : (tx (.pair (bigT y) x)).length ≤ 2000000) (K : Nat) :
    out (rL q) (K + 16) (first (.pair y x)) = (out q K (first (.pair (bigT y) x))).later 16 := by
  obtain ⟨s, hs, hst⟩ := rec_steps q y x hz
  have c : rL q = recL ++ q ++ [] := by unfold rL; rw [List.append_nil]
  have hst' : Start recL.length 32 (.pair (bigT y) x) s := hst
  have hsim := hst'.sim (Nat.le_refl _)
  have hf := first_ok q.length hz
  have hm : regs q ≤ (32 : Nat) := regs_le hq
  rw [show K + 16 = 16 + K from by omega, out_steps hs]
  congr 1
  cases ho : out q K (first (.pair (bigT y) x)) with
  | ok z k =>
    obtain ⟨h1, t, h2, h3, h4, h5, h6⟩ := part_ok c hq hm hsim hf ho
    rw [out_end h2 h1 (by rw [h3, c]; simp only [List.length_append, List.length_nil]; omega)]
    congr 1
    exact reg_of (n := 0) rfl h5
  | size => exact part_size c hq hm hsim hf ho
  | fuel => exact part_fuel c hq hm hsim hf ho
/-- the code of the program that knows, as a tree -/
noncomputable def kT (q : List Ins) : Tr := lst (codeL (knowL q))
theorem kT_big {q : List Ins} (hq : PValid q) : kT q = bigT (lst (codeL (rL q))) := by
  unfold kT knowL
  rw [show yL q = tx (lst (codeL (rL q))) from (tx_code (allR_r hq.2.2)).symm, lst_spec]; rfl
theorem tx_kT {q : List Ins} (hq : PValid q) (hk : KnowsP q) : tx (kT q) = enc (codes (knowL q)) :=
  tx_code (allR_spec ((fits_valid (allR_r hq.2.2)).2 hk.1.1) (code_vld ((fits_valid (allR_r hq.2.2)).2 hk.1.1) hk.1.2))
theorem know_valid {q : List Ins} (hq : PValid q) (hk : KnowsP q) : PValid (knowL q) :=
  (fits_valid (allR_spec ((fits_valid (allR_r hq.2.2)).2 hk.1.1) (code_vld ((fits_valid (allR_r hq.2.2)).2 hk.1.1) hk.1.2))).2 hk.2.1
theorem big_le (y x : Tr) : (tx (.pair y x)).length ≤ (tx (.pair (bigT y) x)).length := by
  have z1 := tx_pair (bigT y) x
  have z2 : (tx (bigT y)).length = 1 + (tx (.pair .nil (.pair oneT y))).length + (tx (.pair s2T (.pair s3T y))).length := tx_pair _ _
  have z6 := tx_pair s3T y
  have z5 := tx_pair s2T (.pair s3T y)
  have z7 := tx_pair y x
  omega
/-- KLEENE: what the program that knows does -/
theorem know_out {q : List Ins} (hq : PValid q) (hk : KnowsP q) {x : Tr} (hz : (tx (.pair (kT q) x)).length ≤ 2000000) (K : Nat) :
    out (knowL q) (K + 19) (first x) = (out q K (first (.pair (kT q) x))).later 19 := by
  rw [kT_big hq] at hz ⊢
  have hy : yL q = tx (lst (codeL (rL q))) := (tx_code (allR_r hq.2.2)).symm
  have hv : PValid (rL q) := (fits_valid (allR_r hq.2.2)).2 hk.1.1
  unfold knowL
  rw [hy, show K + 19 = K + 16 + 3 from rfl, spec_out hv, if_pos (Nat.le_trans (big_le _ _) hz), rec_out hq hz]
  cases out q K (first (.pair (bigT (lst (codeL (rL q)))) x)) <;> rfl
theorem know_inj {p q : List Ins} : knowL p = knowL q ↔ p = q := by
  constructor
  · intro h
    have h1 : (knowL p).drop 19 = (knowL q).drop 19 := by rw [h]
    have h2 : ∀ r, (knowL r).drop 19 = r := fun r => rfl
    rwa [h2, h2] at h1
  · rintro rfl; rfl
end Go.Proofs.YtmhoacnbmbhcjaaGreatDoor
