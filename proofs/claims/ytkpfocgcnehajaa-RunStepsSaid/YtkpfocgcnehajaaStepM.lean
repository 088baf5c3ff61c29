/- Package run: Step, a step. By an AI agent. -/
import Derived.Test.YtkpfocgcnehajaaStepS
import Derived.Test.YtkpfocgcnehajaaAft
namespace Go.Proofs.Ytkpfocgcnehajaa
open Go.RowKit Pl

/-- a state that is an argument -/
noncomputable def stOf (a : Nat) (ls : List (List UInt8)) : St := ⟨a, ls.map rd⟩
/-- what Step returns where a step can be tried -/
def SOut (w : World) (ps : List Ins) (a : Nat) (ls : List (List UInt8)) (e : Ending) (w' : World) : Prop :=
  match stepP ps (stOf a ls) with
    | some s => Below w.heap.size w w' ∧ ∃ B, e = .returned (.tuple #[.agg #[.int .i64 (s.at_ : Int), .slice (some ⟨B, 0, none⟩) 32 32], .int .i64 0]) ∧ w.heap.size ≤ B ∧ StrRow w' B 0 32 (regTexts s)
    | none => SNone w 3 e w'
theorem Mach.at_any {w : World} {n0 M C : Nat} {ps : List Ins} {s : St} (h0 : Mach w n0 M C ps s) (k : Nat) :
    Mach (w.setCell ⟨M, 2, none⟩ (.int .i64 (k : Int))) n0 M C ps ⟨k, s.regs⟩ ∧ But M w (w.setCell ⟨M, 2, none⟩ (.int .i64 (k : Int))) := h0.go 0 k
theorem needs_reg {x : Ins} {i n : Int} (h : right x i n = true) : ∀ r ∈ needs x, ∃ q : Nat, q < 32 ∧ r = (q : Int) := by
  have key : ∀ r : Int, reg r = true → ∃ q : Nat, q < 32 ∧ r = (q : Int) := fun r hr => by
    unfold reg at hr
    simp at hr
    exact ⟨r.toNat, by omega, by omega⟩
  intro r hr
  unfold right at h
  unfold needs at hr
  by_cases h0 : x.op = 0
  · rw [if_pos h0] at hr; cases hr
  rw [if_neg h0] at hr
  by_cases h2 : x.op = 2
  · rw [if_pos h2] at hr
    simp [h2] at h
    simp at hr
    rcases hr with rfl | rfl
    · exact key _ h.2.1
    · exact key _ h.2.2
  rw [if_neg h2] at hr
  by_cases h5 : x.op = 5
  · rw [if_pos h5] at hr
    simp [h5] at h
    simp at hr
    subst hr
    exact key _ h.1.1.1
  rw [if_neg h5] at hr
  simp at hr
  subst hr
  by_cases h1 : x.op = 1 ∨ x.op = 3 ∨ x.op = 4
  · rw [if_neg h0, if_pos h1] at h
    simp at h
    exact key _ h.2
  · rw [if_neg h0, if_neg h1, if_neg h2, if_neg h5] at h
    simp at h
theorem right_a {x : Ins} {i n : Int} (h : right x i n = true) : (∃ q : Nat, q < 32 ∧ x.a = (q : Int)) ∧ (x.op = 0 ∨ x.op = 1 ∨ x.op = 2 ∨ x.op = 3 ∨ x.op = 4 ∨ x.op = 5) := by
  constructor
  · have hr : reg x.a = true := by
      unfold right at h
      simp at h
      exact h.1.1.1
    have := reg_true hr
    exact ⟨x.a.toNat, by omega, by omega⟩
  · unfold right at h
    by_cases h0 : x.op = 0
    · exact .inl h0
    by_cases h1 : x.op = 1 ∨ x.op = 3 ∨ x.op = 4
    · rcases h1 with h1 | h1 | h1
      · exact .inr (.inl h1)
      · exact .inr (.inr (.inr (.inl h1)))
      · exact .inr (.inr (.inr (.inr (.inl h1))))
    by_cases h2 : x.op = 2
    · exact .inr (.inr (.inl h2))
    by_cases h5 : x.op = 5
    · exact .inr (.inr (.inr (.inr (.inr h5))))
    rw [if_neg h0, if_neg h1, if_neg h2, if_neg h5] at h
    simp at h
theorem needs_len (x : Ins) : (needs x).length ≤ 2 := by
  unfold needs
  split
  · simp
  · split
    · simp
    · split <;> simp
theorem reg_same {s s1 : St} {q : Nat} (h : s1.regs[q]? = s.regs[q]?) : s1.reg (q : Int) = s.reg (q : Int) := by
  simp [St.reg, h]
/-- the cells of the box of the instruction -/
structure IBx (W : World) (B : Nat) (x : Ins) : Prop where
  i0 : W.cell? ⟨B, 0, none⟩ = some (.int .i64 x.op)
  i1 : W.cell? ⟨B, 1, none⟩ = some (.int .i64 x.a)
  i2 : W.cell? ⟨B, 2, none⟩ = some (.int .i64 x.b)
  i3 : W.cell? ⟨B, 3, none⟩ = some (.int .i64 x.c)
  i4 : W.cell? ⟨B, 4, none⟩ = some (.string (S x.tree))
theorem ibx_new (w : World) (x : Ins) : IBx (w.alloc (.cells #[.int .i64 x.op, .int .i64 x.a, .int .i64 x.b, .int .i64 x.c, .string (S x.tree)] 58)) w.heap.size x :=
  ⟨by rw [World.cell?_alloc_new]; rfl, by rw [World.cell?_alloc_new]; rfl, by rw [World.cell?_alloc_new]; rfl, by rw [World.cell?_alloc_new]; rfl, by rw [World.cell?_alloc_new]; rfl⟩
theorem IBx.below {W W' : World} {B : Nat} {x : Ins} (h : IBx W B x) {n : Nat} (hB : B < n) (hb : Below n W W') : IBx W' B x :=
  have c : ∀ o (v : Value), W.cell? ⟨B, o, none⟩ = some v → W'.cell? ⟨B, o, none⟩ = some v := fun o _ hc => (hb.cell (p := ⟨B, o, none⟩) hB).trans hc
  ⟨c _ _ h.i0, c _ _ h.i1, c _ _ h.i2, c _ _ h.i3, c _ _ h.i4⟩
theorem stOf_ok {a n : Nat} {ls : List (List UInt8)} (ha : a ≤ n) (hl : ls.length = 32) (hf : ∀ l ∈ ls, vld l = true) : (stOf a ls).ok n :=
  ⟨ha, by simp [stOf, hl], fun t ht => by
    simp only [stOf, List.mem_map] at ht
    obtain ⟨l, hl, rfl⟩ := ht
    rw [tx_rd (hf l hl)]
    exact (vld_iff.1 (hf l hl)).1⟩
theorem regs_text {s : St} {ls : List (List UInt8)} {q : Nat} {t : Tr} (hl : ls.length = 32) (hf : ∀ l ∈ ls, vld l = true) (hq : q < 32) (h : s.regs = (ls.map rd).set q t) {j : Nat} (hj : j < 32) : (regTexts s).getD j [] = if j = q then tx t else ls.getD j [] := by
  unfold regTexts
  rw [h]
  by_cases e : j = q
  · subst e; simp [List.getD, hl, hq]
  · have : q ≠ j := fun h => e h.symm
    simp only [List.getD, List.getElem?_map, List.getElem?_set_ne this]
    simp [hl, hj, e]
    exact tx_rd (hf _ (List.getElem_mem _))
set_option maxHeartbeats 3200000 in
set_option maxRecDepth 100000 in
theorem Step_main (w : World) (b off cap b0 off0 cap0 a : Nat) (ps : List Ins) (ls : List (List UInt8)) (hP : ProgAt w b off ps) (hv : PValid ps) (hs : StrAt w b0 off0 ls) (h32 : ls.length = 32) (hf : ∀ l ∈ ls, vld l = true) (ha : a < ps.length) :
    Calls Try.prog 55 #[.slice (some ⟨b, off, none⟩) ps.length cap, .agg #[.int .i64 (a : Int), .slice (some ⟨b0, off0, none⟩) 32 cap0]] w (SOut w ps a ls) := by
  obtain ⟨i0, hi, hz0, hz1, hz2⟩ := info_parts Try.infoStr
  have h0 : 0 < ps.length := by omega
  have hA : ArgP w (.slice (some ⟨b, off, none⟩) ps.length cap) ps := .inr ⟨h0, b, off, cap, rfl, hP⟩
  have HV := Lib.hid (fun W h => CV_arg W (.slice (some ⟨b, off, none⟩) ps.length cap) ps true h (by have := hv.1; omega) (fun x hx => by have := PV_tree_le hv hx; omega) (by simp [hv]))
  have HX := Lib.hid (fun W (hb : Below w.heap.size w W) => vstate_any W (a : Int) (.slice (some ⟨b0, off0, none⟩) 32 cap0) ls ps.length true (.inr ⟨by omega, b0, off0, cap0, by rw [h32], hs.below hb⟩) (fun l hl => by have := (vld_iff.1 (hf l hl)).1; omega) (by simp [SFits, h32]; exact ⟨by omega, hf⟩))
  have HNM := Lib.hid (fun W h => newMachine_any W (.slice (some ⟨b, off, none⟩) ps.length cap) ps h hv)
  have HSA := Lib.hid (fun W n0 M C s hm hs hlt => step_any W n0 M C ps s hm hv hs hlt)
  have HA := Lib.hid hA; have HS := Lib.hid hs; have HF := Lib.hid hf; have HL := Lib.hid h32; have HPV := Lib.hid hv
  obtain ⟨x, hx⟩ := get_at ha
  obtain ⟨k0, k1, k2, k3, k4⟩ := hP.2 a x hx
  have K0 := Lib.hid k0; have K1 := Lib.hid k1; have K2 := Lib.hid k2; have K3 := Lib.hid k3; have K4 := Lib.hid k4
  have HNE := Lib.hid (fun W => needed_any W x)
  have HXX := Lib.hid hx
  have HBL := Lib.hid hP.1
  have h1 := bx_new w (a : Int) (.slice (some ⟨b0, off0, none⟩) 32 cap0)
  have HAL := Lib.hid ha
  have ha1 : (a : Int) < (ps.length : Int) := by omega
  have ha0 : (0 : Int) ≤ (a : Int) := by omega
  have hane : ((a : Int) == (ps.length : Int)) = false := beq_eq_false_iff_ne.2 (by omega)
  clear hA hs hf h32 hv hx k0 k1 k2 k3 k4 hP h0 ha
  generalize hn : ps.length = n at *
  have HN := Lib.hid hn
  clear hn
  go_enter Try.func55, Try.ntmps55
  go_wp2_with fail
  refine (HV.out _ (HA.out.below h1.below)).mono ?_
  rintro e w1 ⟨rfl, hb1⟩
  have h2 := h1.later hb1
  clear hb1 h1
  have s0 := h2.s0; have s1 := h2.s1
  go_wp2_with fail
  refine (HX.out _ h2.below).mono ?_
  rintro e w2 ⟨rfl, hb2⟩
  have h3 := h2.later hb2
  clear hb2 h2 s0 s1
  have s0 := h3.s0
  have q0 := h3.below.cell (p := ⟨b, off + a * 5, none⟩) HBL.out |>.trans K0.out
  have q1 := h3.below.cell (p := ⟨b, off + a * 5 + 1, none⟩) HBL.out |>.trans K1.out
  have q2 := h3.below.cell (p := ⟨b, off + a * 5 + 2, none⟩) HBL.out |>.trans K2.out
  have q3 := h3.below.cell (p := ⟨b, off + a * 5 + 3, none⟩) HBL.out |>.trans K3.out
  have q4 := h3.below.cell (p := ⟨b, off + a * 5 + 4, none⟩) HBL.out |>.trans K4.out
  have H3 := Lib.hid h3
  clear h3
  go_wp2_with fail
  have hib := ibx_new w2 x
  have hba : Below w2.heap.size w2 (w2.alloc (.cells #[.int .i64 x.op, .int .i64 x.a, .int .i64 x.b, .int .i64 x.c, .string (S x.tree)] 58)) := (Below.refl _ _).alloc (Nat.le_refl _) _
  have H4 := Lib.hid (H3.out.later hba)
  have hB6 : w2.heap.size < (w2.alloc (.cells #[.int .i64 x.op, .int .i64 x.a, .int .i64 x.b, .int .i64 x.c, .string (S x.tree)] 58)).heap.size := by simp
  have h26 : w.heap.size + 2 ≤ w2.heap.size := H3.out.size
  clear q0 q1 q2 q3 q4 s0 H3 hba
  generalize w2.alloc (.cells #[.int .i64 x.op, .int .i64 x.a, .int .i64 x.b, .int .i64 x.c, .string (S x.tree)] 58) = w3 at *
  generalize w2.heap.size = B6 at *
  refine (HNM.out _ (HA.out.below H4.out.below)).mono ?_
  rintro e w4 ⟨M, C, rfl, hM, hMs, _, hb4⟩
  have hM4 := hM w3.heap.size (Nat.le_refl _) (fun k _ hk => by cases hk; exact Nat.lt_of_lt_of_le HBL.out H4.out.below.size)
  have H5 := Lib.hid (H4.out.later hb4)
  have HM4 := Lib.hid hM4
  have m2 := hM4.place
  have mf := hM4.free 2
  have s0 := H5.out.s0
  have HIB4 := Lib.hid (hib.below hB6 hb4)
  have HB34 := Lib.hid hb4
  have hM5 := Mach.at_any hM4 a
  have hb5 : Below w3.heap.size w4 (w4.setCell ⟨M, 2, none⟩ (.int .i64 (a : Int))) := hM5.2.below hMs hb4.size
  have HM5 := Lib.hid hM5.1
  have ⟨q0, q1, q2, q3, q4⟩ := HIB4.out.below hB6 hb5
  have HB35 := Lib.hid (hb4.trans hb5)
  clear hM hM4 hb4 hib hM5 hb5
  go_wp2_with fail
  have HIB5 := Lib.hid (⟨q0, q1, q2, q3, q4⟩ : IBx (w4.setCell ⟨M, 2, none⟩ (.int .i64 (a : Int))) B6 x)
  clear q0 q1 q2 q3 q4 m2 mf s0 HIB4 HM4
  generalize w4.setCell ⟨M, 2, none⟩ (.int .i64 (a : Int)) = w5 at *
  refine (HNE.out _).mono ?_
  rintro e w6 ⟨hb6, hq⟩
  obtain ⟨P, rfl, hP6⟩ : ∃ P, e = .returned (.slice P (needs x).length (needs x).length) ∧ (0 < (needs x).length → ∃ G, P = some ⟨G, 0, none⟩ ∧ w5.heap.size ≤ G ∧ IntRow w6 G (needs x)) := by
    rcases hq with ⟨h1, rfl⟩ | ⟨G, h1, rfl, h2, h3⟩
    · exact ⟨none, by rw [h1]; rfl, fun h => by rw [h1] at h; cases h⟩
    · exact ⟨_, rfl, fun _ => ⟨G, rfl, h2, h3⟩⟩
  have HP6 := Lib.hid hP6
  have HM6 := Lib.hid (HM5.out.below hb6)
  have HB36 := Lib.hid (HB35.out.trans (hb6.mono HB35.out.size))
  have hM5 : M < w5.heap.size := HM5.out.tagM.lt
  have hM6 : M < w6.heap.size := Nat.lt_of_lt_of_le hM5 hb6.size
  have HIB6 := Lib.hid (HIB5.out.below hB6 (hb6.mono HB35.out.size))
  clear hb6 hq hP6
  generalize hzs : needs x = zs at *
  have HZS := Lib.hid hzs
  clear hzs
  generalize hzl : zs.length = z at *
  have HZL := Lib.hid hzl
  clear hzl
  have HZR : Hid (∀ j, j < z → ∃ r : Nat, r < 32 ∧ zs.getD j 0 = (r : Int)) := Lib.hid fun j hj => by
    have hm : zs.getD j 0 ∈ zs := by have := HZL.out; simp [List.getD, show j < zs.length by omega]
    rw [← HZS.out] at hm ⊢
    exact needs_reg (HPV.out.2.2 a x HXX.out) _ hm
  have HZ2 : Hid (z ≤ 2) := Lib.hid (by rw [← HZL.out, ← HZS.out]; exact needs_len x)
  have h3M : w.heap.size < M := by have := H4.out.size; omega
  have HST0 : Hid (st0.regs.length = 32 ∧ (∀ t ∈ st0.regs, (tx t).length ≤ 2000000)) := Lib.hid (by
    have h := first_ok (t := .nil) 0 (by decide)
    exact h.2)
  go_wp2_with fail
  go_loopw [45] (fun i wr => ∃ (k : Nat) (rg : List Tr), k ≤ z ∧ i = .int .i64 k ∧ Hid (Mach wr w3.heap.size M C ps ⟨a, rg⟩) ∧ Hid ((rg.length = 32 ∧ (∀ t ∈ rg, (tx t).length ≤ 2000000)) ∧ ∀ j, j < k → rg[(zs.getD j 0).toNat]? = (ls.map rd)[(zs.getD j 0).toNat]?) ∧ But M w6 wr) (fun i _ => z - (intOf i).toNat)
  case atStart => exact ⟨0, _, Nat.zero_le _, rfl, HM6, Lib.hid ⟨HST0.out, fun j hj => absurd hj (Nat.not_lt_zero _)⟩, But.refl _ _⟩
  case round =>
    obtain ⟨k, rg, hk, rfl, HM, HG, hbut⟩ := hrel
    have hB6r : Below w3.heap.size w6 wr := hbut.below hMs HB36.out.size
    have hB3r : Below w3.heap.size w3 wr := HB36.out.trans hB6r
    have hbx := H4.out.later hB3r
    have HBX := Lib.hid hbx
    have HBUT := Lib.hid hbut
    by_cases hlt : k < z
    · obtain ⟨r, hr32, hrz⟩ := HZR.out k hlt
      obtain ⟨G, rfl, hG5, hrow⟩ := HP6.out (by omega)
      have cz : wr.cell? ⟨G, k, none⟩ = some (.int .i64 (r : Int)) := by
        have h := hrow.2 k (by rw [HZL.out]; exact hlt)
        rw [hrz] at h
        exact hbut.cell (p := ⟨G, k, none⟩) (by show G ≠ M; omega) h
      have hx1 := hbx.s1
      have hcs := (HS.out.below hbx.below).2 r (by rw [HL.out]; exact hr32)
      have hvx : vld (ls.getD r []) = true := HF.out _ (by simp [List.getD, HL.out, hr32])
      have HSH := Lib.hid (fun W => share_any (S (ls.getD r [])) W hvx)
      have HVX := Lib.hid hvx
      have hk1 : (k : Int) < (z : Int) := by omega
      have hk0 : (0 : Int) ≤ (k : Int) := by omega
      have hk4 : (k : Int) < 4000 := by have := HZ2.out; omega
      have hr1 : (r : Int) < 32 := by omega
      have hr0 : (0 : Int) ≤ (r : Int) := by omega
      have hn1 : (⟨M, 3 + r, none⟩ : Addr) ≠ ⟨w.heap.size, 1, none⟩ := fun e => by injection e with e1; omega
      have hn2 : (⟨M, 3 + r, none⟩ : Addr) ≠ ⟨b0, off0 + r, none⟩ := fun e => by injection e with e1; have := HS.out.1; omega
      have HN1 := Lib.hid hn1; have HN2 := Lib.hid hn2
      have HX1 := Lib.hid hx1; have HCS := Lib.hid hcs; have HRZ := Lib.hid hrz
      clear hn1 hn2 hbx hB6r hB3r hrow hvx hbut hrz
      go_wp2_with fail
      go_region_held3 (fun w' => w'.cell? ⟨w.heap.size, 1, none⟩ = some (.slice (some ⟨b0, off0, none⟩) 32 cap0) ∧ w'.cell? ⟨b0, off0 + r, none⟩ = some (.string (S (ls.getD r []))))
        (first | exact ⟨HX1.out, HCS.out⟩ | exact ⟨g1, g2⟩ | exact ⟨j1, j2⟩ | go_keep)
        (first | (go_simp; go_at_call 105; refine (HSH.out _).mono ?_; rintro e w8 ⟨v8, rfl, hv8, hb8⟩; obtain ⟨V8, rfl⟩ := hv8.one; have hbd := (Below.refl wr.heap.size wr).drew.trans hb8; have hM8 := HM.out.below hbd; have g1 := cell_keep hb8 HX1.out; have g2 := cell_keep hb8 HCS.out; obtain ⟨u8, g3, _⟩ := hM8.regs r hr32; have g4 := hM8.free (3 + r); have j1 := (set_other (v := .pointer V8) HN1.out).trans g1; have j2 := (set_other (v := .pointer V8) HN2.out).trans g2))
      have hreg := hM8.reg HG.out.1.1 hv8 (a := r) hr32
      have HM9 := Lib.hid hreg.1
      have HB9 := Lib.hid ((HBUT.out.trans (But.of_below hbd)).trans hreg.2)
      have HG9 : Hid (((rg.set r (rd (ls.getD r []))).length = 32 ∧ (∀ t ∈ rg.set r (rd (ls.getD r [])), (tx t).length ≤ 2000000)) ∧ ∀ j, j < k + 1 → (rg.set r (rd (ls.getD r [])))[(zs.getD j 0).toNat]? = (ls.map rd)[(zs.getD j 0).toNat]?) := Lib.hid (by
        obtain ⟨⟨g1, g2⟩, g3⟩ := HG.out
        refine ⟨⟨by simp [g1], fun t ht => ?_⟩, fun j hj => ?_⟩
        · rcases List.mem_or_eq_of_mem_set ht with h | rfl
          · exact g2 t h
          · rw [tx_rd HVX.out]; exact (vld_iff.1 HVX.out).1
        · have same : (rg.set r (rd (ls.getD r [])))[r]? = (ls.map rd)[r]? := by
            rw [List.getElem?_set_self (by omega)]
            simp [List.getD, HL.out, hr32]
          by_cases e : (zs.getD j 0).toNat = r
          · rw [e]; exact same
          · rw [List.getElem?_set_ne (fun h => e h.symm)]
            rcases Nat.lt_or_ge j k with h | h
            · exact g3 j h
            · obtain rfl : j = k := by omega
              rw [HRZ.out] at e
              exact absurd (by simp) e)
      clear hreg hM8 hv8 hbd hb8 g1 g2 g3 g4 j1 j2
      go_wp2_with fail
      go_roundw
      case rel => exact ⟨k + 1, _, by omega, by go_num, HM9, HG9, HB9.out⟩
      case measure => simp [intOf]; omega
    · obtain rfl : k = z := by omega
      obtain ⟨⟨qa, hqa, hxa⟩, hop⟩ := right_a (HPV.out.2.2 a x HXX.out)
      have hsn := stepI_needs (x := x) (s := stOf a ls) (s1 := ⟨a, rg⟩) rfl (by rw [hxa]; simp [stOf, HL.out, hqa]) (by rw [hxa]; simp [HG.out.1.1, hqa]) (fun r hr => by
        obtain ⟨q, hq, rfl⟩ := needs_reg (HPV.out.2.2 a x HXX.out) r hr
        refine reg_same ?_
        rw [HZS.out] at hr
        obtain ⟨j, hj, hjr⟩ := List.getElem_of_mem hr
        have h := HG.out.2 j (by rw [← HZL.out]; exact hj)
        rw [show zs.getD j 0 = (q : Int) by simp [List.getD, hj, hjr]] at h
        exact h) hop
      have e1 : stepP ps (stOf a ls) = stepI x (stOf a ls) := by unfold stepP; show (ps[a]?).bind _ = _; rw [HXX.out]; rfl
      have e2 : stepP ps ⟨a, rg⟩ = stepI x ⟨a, rg⟩ := by unfold stepP; show (ps[a]?).bind _ = _; rw [HXX.out]; rfl
      rw [← e1, ← e2] at hsn
      have HSN := Lib.hid hsn
      have HST := Lib.hid (HSA.out wr w3.heap.size M C ⟨a, rg⟩ HM.out ⟨Nat.le_of_lt HAL.out, HG.out.1⟩ HAL.out)
      have HIBr := Lib.hid (HIB6.out.below hB6 hB6r)
      have HB3R := Lib.hid hB3r
      have HXA := Lib.hid hxa
      have hs1 := hbx.s1
      clear hsn e1 e2 hop hB6r hB3r hbut hxa
      go_wp2_with fail
      refine HST.out.mono ?_
      rintro e w9 ⟨hbut9, he⟩
      have hB9 : Below w3.heap.size wr w9 := hbut9.below hMs HB3R.out.size
      have h9 := H4.out.later (HB3R.out.trans hB9)
      cases hst : stepP ps (stOf a ls) with
      | none =>
        rw [hst] at HSN
        rw [HSN.out] at he
        obtain ⟨rfl, _⟩ := he
        obtain ⟨p0, p1, pb⟩ := h9.set (.int .i64 0) (.slice none 0 0)
        have P0 := Lib.hid p0; have P1 := Lib.hid p1; have PB := Lib.hid pb
        unfold Bx.put at P0 P1 PB
        obtain ⟨s0, s1, c0, c1, f0, f1, hs, _⟩ := h9
        have HSTT := Lib.hid hst
        clear p0 p1 pb hs1 hbx hbut9 hB9 hst
        go_wp2
        exact bodyPost_ret (v := .tuple #[.agg #[.int .i64 0, .slice none 0 0], .int .i64 3]) (by simp [results, Try.f55, go_sem, P0.out, P1.out]) rfl (by unfold SOut; rw [HSTT.out]; exact ⟨rfl, PB.out⟩)
      | some s' =>
        rw [hst] at HSN
        obtain ⟨s1, hs1e, hat, hrg, hrs⟩ := HSN.out
        rw [hs1e] at he
        obtain ⟨rfl, hM9⟩ := he
        have HM9 := Lib.hid hM9; have HSTT := Lib.hid hst; have H9 := Lib.hid h9; have HRS := Lib.hid hrs; have HRG := Lib.hid hrg; have HATT := Lib.hid hat
        have hs9 := h9.s1
        have HIB9 := Lib.hid (HIBr.out.below hB6 hB9)
        have HB39 := Lib.hid (HB3R.out.trans hB9)
        clear hst h9 hs1 hbx hbut9 hB9 hs1e hat hrg hrs hM9
        go_wp2_with (at_make; refine wpList_make_full _ rfl _ _ 76 rfl w9.heap.size 9 i0 (.string ⟨#[]⟩) 1 Try.underlying76 hi hz0 hz1 .i64 .i64 _ _ 32 rfl rfl rfl rfl (by rw [hz2]; omega) (by unfold maxLen; omega) (Nat.le_refl _) ?_)
        intro w10 hown hgrow
        have hb10 : Below w9.heap.size w9 w10 := (Below.refl _ _).grown hgrow (Nat.le_refl _) (by simp)
        obtain ⟨ys, HO⟩ : ∃ ys, Hid (w10.ownsRow w9.heap.size 9 1 (.slice (some ⟨w9.heap.size, 0, none⟩) 32 32) 32 ys) := ⟨_, Lib.hid hown⟩
        have h10 := H9.out.later hb10
        have H10 := Lib.hid h10
        have hs10 := h10.s1
        have HB10 := Lib.hid hb10
        have h9s : w3.heap.size ≤ w9.heap.size := HB39.out.size
        have hM9s : M < w9.heap.size := HM9.out.tagM.lt
        clear hown hgrow hb10 h10 hs9
        generalize hD : w9.heap.size = D at HO HB10 h9s hM9s ⊢
        have HDD := Lib.hid hD
        clear hD
        go_wp2_with fail
        go_loopw [72] (fun i wr => ∃ (k : Nat) (zs : List Value), k ≤ 32 ∧ i = .int .i64 k ∧ Hid (wr.ownsRow D 9 1 (.slice (some ⟨D, 0, none⟩) 32 32) 32 zs) ∧ Hid (∀ j, j < k → zs[j]? = some (.string (S (ls.getD j [])))) ∧ Below D w9 wr) (fun i _ => 32 - (intOf i).toNat)
        case atStart => exact ⟨0, ys, Nat.zero_le _, rfl, HO, Lib.hid (fun j hj => absurd hj (Nat.not_lt_zero _)), HB10.out⟩
        case round =>
          obtain ⟨k, zs2, hk, rfl, HO, HZ, hb⟩ := hrel
          have hb9 : Below w9.heap.size w9 wr := by rw [HDD.out]; exact hb
          have hx9 := H9.out.later hb9
          by_cases hlt : k < 32
          · have hcs := (HS.out.below hx9.below).2 k (by rw [HL.out]; exact hlt)
            have HCL := Lib.hid (fun W => Clone_any (S (ls.getD k [])) W (by rw [S_size]; have := (vld_iff.1 (HF.out (ls.getD k []) (by simp [List.getD, HL.out, hlt]))).1; omega))
            have hk1 : (k : Int) < 32 := by omega
            have hk0 : (0 : Int) ≤ (k : Int) := by omega
            have hDw : D ≤ wr.heap.size := by have := HDD.out; have := hb.size; omega
            obtain ⟨u0, hu0⟩ := own_cell1 HO.out k hlt
            have hf0 := HO.out.frozenAt k
            have HU0 := Lib.hid hu0
            have HF0 := Lib.hid hf0
            have HBR := Lib.hid hb
            clear hu0 hf0 hb hb9 hx9
            go_wp2_with (go_at_call 101; refine (HCL.out _).mono ?_)
            rintro e w11 ⟨rfl, hb11⟩
            have c3 := cell_keep hb11 HU0.out
            have f3 := (hb11.frozen (p := ⟨D, k, none⟩) (cell_lt HU0.out)).trans HF0.out
            have HO3 := Lib.hid ((own_below HO.out hb11).stored k (.string (S (ls.getD k [])))).1
            have HB3 := Lib.hid ((HBR.out.trans (hb11.mono hDw)).setCell (p := ⟨D, k, none⟩) (Nat.le_refl D) (.string (S (ls.getD k []))))
            have HZ3 : Hid (∀ j, j < k + 1 → (zs2.set k (.string (S (ls.getD k []))))[j]? = some (.string (S (ls.getD j [])))) := Lib.hid (by
              have hl : zs2.length = 32 := by have := HO.out.1; omega
              intro j hj
              by_cases e : j = k
              · subst e
                rw [List.getElem?_set_self (by omega)]
              · rw [List.getElem?_set_ne (fun h => e h.symm)]
                exact HZ.out j (by omega))
            clear hb11
            go_wp2_with fail
            go_roundw
            case rel => exact ⟨k + 1, _, by omega, by go_num, HO3, HZ3, HB3.out⟩
            case measure => simp [intOf]; omega
          · obtain rfl : k = 32 := by omega
            have hMr := HM9.out.below hb9
            have hibr := HIB9.out.below hB6 (hb9.mono (by rw [HDD.out]; exact h9s))
            have bi1 := hibr.i1
            rw [HXA.out] at bi1
            obtain ⟨y, hy, hny⟩ := hMr.regs qa hqa
            obtain ⟨X, rfl⟩ := hny.one
            have hOK := stepP_ok HPV.out (stOf_ok (by have := HAL.out; have := HN.out; omega) HL.out HF.out) HSTT.out
            have hte : s1.regs[qa]?.getD .nil = s'.reg x.a := by
              have h := HRG.out
              rw [← h]
              simp [St.reg, HXA.out]
            rw [hte] at hny
            have HTX := Lib.hid (fun W (hW : Below wr.heap.size wr W) => text_any (s'.reg x.a) (.pointer X) W (hny.below hW) (St.reg_le hOK x.a))
            have hq1 : (qa : Int) < 32 := by omega
            have hq0 : (0 : Int) ≤ (qa : Int) := by omega
            obtain ⟨u0, hu0⟩ := own_cell1 HO.out qa hqa
            have hf0 := HO.out.frozenAt qa
            have HU0 := Lib.hid hu0; have HF0 := Lib.hid hf0; have HBI := Lib.hid bi1; have HY := Lib.hid hy
            have hD1 : (⟨D, qa, none⟩ : Addr) ≠ ⟨B6, 1, none⟩ := fun e => by injection e with e1; omega
            have hD2 : (⟨D, qa, none⟩ : Addr) ≠ ⟨M, 3 + qa, none⟩ := fun e => by injection e with e1; omega
            have HD1 := Lib.hid hD1; have HD2 := Lib.hid hD2; have HBR := Lib.hid hb
            have HTE := Lib.hid hte
            generalize hT : s'.reg x.a = T at *
            have HTT := Lib.hid hT
            clear hD1 hD2 hb hb9 hx9 hMr hibr hu0 hf0 hOK hte hny hT
            go_wp2_with fail
            go_region_held3 (fun w' => w'.cell? ⟨B6, 1, none⟩ = some (.int .i64 (qa : Int)) ∧ w'.cell? ⟨M, 3 + qa, none⟩ = some (.pointer X))
              (first | exact ⟨HBI.out, HY.out⟩ | exact ⟨g1, g2⟩ | exact ⟨j1, j2⟩ | go_keep)
              (first | (go_simp; go_at_call 91; refine (HTX.out _ (by first | exact Below.refl _ _ | exact (Below.refl _ _).drew)).mono ?_; rintro e w12 ⟨rfl, hb12⟩; have g1 := cell_keep hb12 HBI.out; have g2 := cell_keep hb12 HY.out; have g3 := cell_keep hb12 HU0.out; have g4 := (hb12.frozen (p := ⟨D, qa, none⟩) (cell_lt HU0.out)).trans HF0.out; have j1 := (set_other (v := .string (S (tx T))) HD1.out).trans g1; have j2 := (set_other (v := .string (S (tx T))) HD2.out).trans g2))
            have hDw : D ≤ wr.heap.size := by have := HDD.out; have := HBR.out.size; omega
            have hw12 : Below D w9 w12 := HBR.out.trans (((Below.refl wr.heap.size wr).drew.trans hb12).mono hDw)
            have hB12 : Below D w9 (w12.setCell ⟨D, qa, none⟩ (.string (S (tx T)))) := hw12.setCell (p := ⟨D, qa, none⟩) (Nat.le_refl D) _
            have h12 := H9.out.later (by rw [HDD.out]; exact hB12)
            have m2 := (hB12.cell (p := ⟨M, 2, none⟩) hM9s).trans HM9.out.place
            rw [HATT.out] at m2
            have HO12 := Lib.hid ((own_below (w := wr.drew) HO.out hb12).stored qa (.string (S (tx T)))).1
            clear g1 g2 g3 g4 j1 j2 hw12 hB12 hb12 HO hs10
            generalize w12.setCell ⟨D, qa, none⟩ (.string (S (tx T))) = W at *
            obtain ⟨p0, p1, pb⟩ := h12.set (.int .i64 (s'.at_ : Int)) (.slice (some ⟨D, 0, none⟩) 32 32)
            have P0 := Lib.hid p0; have P1 := Lib.hid p1; have PB := Lib.hid pb
            unfold Bx.put at P0 P1 PB
            obtain ⟨t0, t1, c0, c1, f0, f1, hs, _⟩ := h12
            clear p0 p1 pb t0 t1
            go_wp2
            refine bodyPost_ret (v := .tuple #[.agg #[.int .i64 (s'.at_ : Int), .slice (some ⟨D, 0, none⟩) 32 32], .int .i64 0]) (by simp [results, Try.f55, go_sem, P0.out, P1.out]) rfl ?_
            unfold SOut
            rw [HSTT.out]
            refine ⟨PB.out, D, rfl, by omega, ?_, fun j hj => ?_⟩
            · have h1 := (own_tag HO12.out (k := D) rfl).lt
              simpa using h1
            · have e1 : ∀ o, (⟨w.heap.size + 1, o, none⟩ : Addr) ≠ ⟨D, 0 + j, none⟩ := fun o e => by injection e with e1; omega
              rw [set_other (e1 _), set_other (e1 _), Nat.zero_add, HO12.out.cellAt j (by omega)]
              have hrs := HRS.out
              rw [HXA.out, Int.toNat_natCast] at hrs
              rw [regs_text HL.out HF.out hqa (show s'.regs = (ls.map rd).set qa T from hrs) hj]
              have hl : zs2.length = 32 := by have := HO12.out.1; simp at this; omega
              by_cases e : j = qa
              · subst e
                rw [List.getElem?_set_self (by omega), if_pos rfl]
              · rw [List.getElem?_set_ne (fun h => e h.symm), if_neg e]
                exact HZ.out j hj
end Go.Proofs.Ytkpfocgcnehajaa
