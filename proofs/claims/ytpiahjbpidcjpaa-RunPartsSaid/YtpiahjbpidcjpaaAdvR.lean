/- Package run: advance on what is valid. By an AI agent. -/
import Derived.Test.YtpiahjbpidcjpaaAdv
import Derived.Outline
namespace Go.Proofs.Ytpiahjbpidcjpaa
open Go.RowKit Pl

attribute [local go_sem] Oper.semAt_some

theorem cells_kept {W W' : World} {row : Option Nat} {B b o : Nat} {x : Value} (h : W.cell? ⟨b, o, none⟩ = some x) (hg : W.grownBy W' row) (hr : ∀ r, row = some r → B ≤ r ∧ ∃ o : Obj, W.heap[r]? = some o ∧ o.isCells = false) : W'.heap[b]? = W.heap[b]? :=
  hg.block b (cell_lt h) (fun e => by
    obtain ⟨_, ob, h1, h2⟩ := hr b e.symm
    unfold World.cell? at h
    simp only [h1] at h
    cases ob <;> simp_all [Obj.isCells])
theorem tag_kept {W W' : World} {row : Option Nat} {B b : Nat} {τ : TypeId} (h : TagB W b τ) (hg : W.grownBy W' row) (hr : ∀ r, row = some r → B ≤ r ∧ ∃ o : Obj, W.heap[r]? = some o ∧ o.isCells = false) : W'.heap[b]? = W.heap[b]? :=
  hg.block b h.lt (fun e => by
    obtain ⟨_, ob, h1, h2⟩ := hr b e.symm
    obtain ⟨C, fr, h3⟩ := h
    rw [h1] at h3; cases h3; cases h2)
theorem mach_own {W W' : World} {row : Option Nat} {B n0 M C : Nat} {ps : List Ins} {s : St} (h : Mach W n0 M C ps s) (hB : n0 ≤ B) (hg : W.grownBy W' row) (hr : ∀ r, row = some r → B ≤ r ∧ ∃ o : Obj, W.heap[r]? = some o ∧ o.isCells = false) : Mach W' n0 M C ps s :=
  h.keep hg.size fun k hk hc => by
    rcases hc with hc | rfl | hc | hc
    · exact hg.block k hk (fun e => by have := (hr k e.symm).1; omega)
    · exact tag_kept h.tagM hg hr
    · exact tag_kept hc hg hr
    · exact tag_kept hc hg hr
theorem below_own {w W W' : World} {row : Option Nat} {B : Nat} (h : Below w.heap.size w W) (hB : w.heap.size ≤ B) (hg : W.grownBy W' row) (hr : ∀ r, row = some r → B ≤ r ∧ ∃ o : Obj, W.heap[r]? = some o ∧ o.isCells = false) : Below w.heap.size w W' :=
  h.grown hg h.size fun k e => Nat.le_trans hB (hr k e).1
theorem res_own {w W W' : World} {k : Int} {row : Option Nat} {B : Nat} (h : Res w k W) (hB : w.heap.size ≤ B) (hg : W.grownBy W' row) (hr : ∀ r, row = some r → B ≤ r ∧ ∃ o : Obj, W.heap[r]? = some o ∧ o.isCells = false) : Res w k W' :=
  h.keep hg.size (below_own h.below hB hg hr) fun b h1 h2 => by
    rcases (by omega : b = w.heap.size ∨ b = w.heap.size + 1 ∨ b = w.heap.size + 1 + 1 ∨ b = w.heap.size + 1 + 1 + 1) with rfl | rfl | rfl | rfl
    · exact cells_kept h.c0 hg hr
    · exact cells_kept h.c1 hg hr
    · exact cells_kept h.c2 hg hr
    · exact cells_kept h.c3 hg hr
theorem cell_own {W W' : World} {row : Option Nat} {B b o : Nat} {x : Value} (h : W.cell? ⟨b, o, none⟩ = some x) (hg : W.grownBy W' row) (hr : ∀ r, row = some r → B ≤ r ∧ ∃ o : Obj, W.heap[r]? = some o ∧ o.isCells = false) : W'.cell? ⟨b, o, none⟩ = some x :=
  (World.cell?_of_block (w := W) (a := ⟨b, o, none⟩) (cells_kept h hg hr)).trans h
/-- what lies in boxes while the machine runs -/
def AdvZ (w : World) (K m9 M : Nat) (W : World) : Prop := Res w K W ∧ W.cell? ⟨m9, 0, none⟩ = some (.pointer (some ⟨M, 0, none⟩))
/-- what advance has found -/
def AdvX (w : World) (K n0 M C : Nat) (ps : List Ins) (s0 : St) (W : World) : Prop :=
  ∃ k s, Steps ps s0 k s ∧ k ≤ K ∧ (k = K ∨ s.at_ = ps.length) ∧ Mach W n0 M C ps s ∧ Below w.heap.size w W ∧ W.cell? ⟨w.heap.size + 1, 0, none⟩ = some (.pointer (some ⟨M, 0, none⟩)) ∧ W.cell? ⟨w.heap.size + 1 + 1, 0, none⟩ = some (.int .i64 (k : Int)) ∧ W.cell? ⟨w.heap.size + 1 + 1 + 1, 0, none⟩ = some (.int .i64 0)
theorem advZ_but {w W W' : World} {K m9 M : Nat} (hb : But M W W') (h : AdvZ w K m9 M W) (h1 : w.heap.size + 1 + 1 + 1 < M) (h9 : m9 ≠ M) : AdvZ w K m9 M W' :=
  ⟨h.1.keep hb.size (h.1.below.trans (hb.below (by omega) h.1.below.size)) (fun b _ h2 => hb.block b (by have := h.1.size; omega) (by omega)), hb.cell (p := ⟨m9, 0, none⟩) h9 h.2⟩
theorem advZ_own {w W W' : World} {K m9 M : Nat} {row : Option Nat} {B : Nat} (h : AdvZ w K m9 M W) (hB : w.heap.size ≤ B) (hg : W.grownBy W' row) (hr : ∀ r, row = some r → B ≤ r ∧ ∃ o : Obj, W.heap[r]? = some o ∧ o.isCells = false) : AdvZ w K m9 M W' :=
  ⟨res_own h.1 hB hg hr, cell_own h.2 hg hr⟩
theorem advX_own {w W W' : World} {K n0 M C : Nat} {ps : List Ins} {s0 : St} {row : Option Nat} {B : Nat} (h : AdvX w K n0 M C ps s0 W) (hB : w.heap.size ≤ B) (hB2 : n0 ≤ B) (hg : W.grownBy W' row) (hr : ∀ r, row = some r → B ≤ r ∧ ∃ o : Obj, W.heap[r]? = some o ∧ o.isCells = false) : AdvX w K n0 M C ps s0 W' := by
  obtain ⟨k, s, h1, h2, h3, h4, h5, h6, h7, h8⟩ := h
  exact ⟨k, s, h1, h2, h3, mach_own h4 hB2 hg hr, below_own h5 hB hg hr, cell_own h6 hg hr, cell_own h7 hg hr, cell_own h8 hg hr⟩
theorem keepsFrom_set (B : Nat) (w W : World) (a b c : Value) : KeepsFrom B W (resSet w W a b c) :=
  (((KeepsOthers.setCell W _ a).trans (KeepsOthers.setCell _ _ b)).trans (KeepsOthers.setCell _ _ c)).from B
theorem adv_close {w W : World} {K k m9 M C B : Nat} {ps : List Ins} {s0 s : St} (hZ : AdvZ w K m9 M W) (hst : Steps ps s0 k s) (hk : k ≤ K) (he : k = K ∨ s.at_ = ps.length) (hM : Mach W w.heap.size M C ps s) (hwM : w.heap.size + 1 + 1 + 1 < M) :
    KeepsFrom B W (resSet w W (.pointer (some ⟨M, 0, none⟩)) (.int .i64 (k : Int)) (.int .i64 0)) ∧ AdvX w K w.heap.size M C ps s0 (resSet w W (.pointer (some ⟨M, 0, none⟩)) (.int .i64 (k : Int)) (.int .i64 0)) := by
  obtain ⟨h1, h2, h3, h4⟩ := hZ.1.set (.pointer (some ⟨M, 0, none⟩)) (.int .i64 (k : Int)) (.int .i64 0)
  refine ⟨keepsFrom_set B w W _ _ _, k, s, hst, hk, he, ?_, h4, h1, h2, h3⟩
  have hsz := hZ.1.size
  refine hM.keep (by simp [resSet, World.setCell]) fun b hb hc => ?_
  have hnb : b ≠ w.heap.size + 1 ∧ b ≠ w.heap.size + 1 + 1 ∧ b ≠ w.heap.size + 1 + 1 + 1 := by
    rcases hc with hc | rfl | hc | hc
    · omega
    · omega
    · exact ⟨fun e => (hZ.1.tags b (by omega) (by omega)).1 hc, fun e => (hZ.1.tags b (by omega) (by omega)).1 hc, fun e => (hZ.1.tags b (by omega) (by omega)).1 hc⟩
    · exact ⟨fun e => (hZ.1.tags b (by omega) (by omega)).2 hc, fun e => (hZ.1.tags b (by omega) (by omega)).2 hc, fun e => (hZ.1.tags b (by omega) (by omega)).2 hc⟩
  unfold resSet
  rw [Below.heap_setCell _ _ _ _ hnb.2.2, Below.heap_setCell _ _ _ _ hnb.2.1, Below.heap_setCell _ _ _ _ hnb.1]
theorem first_set (t : Tr) : (⟨st0.at_, st0.regs.set 0 t⟩ : St) = first t := rfl
theorem st0_len : st0.regs.length = 32 := by simp [st0]

set_option maxHeartbeats 3200000 in
set_option maxRecDepth 100000 in
theorem advance_run (w : World) (v : Value) (ps : List Ins) (x : ByteArray) (K : Nat) (h : ArgP w v ps) (hv : PValid ps) (hx : vld x.data.toList = true) (hk : K ≤ 10000000) :
    Calls Try.prog 83 #[v, .string x, .int .i64 (K : Int)] w (AdvOut w ps (rd x.data.toList) K) := by
  have HV := Lib.hid (fun W h => CV_arg W v ps true h (by have := hv.1; omega) (fun x hx => by have := PV_tree_le hv hx; omega) (by simp [hv]))
  have HNM := Lib.hid (fun W h => newMachine_any W v ps h hv)
  have HX := Lib.hid (fun W => Valid_is true x W (by have := vld_size hx; omega) hx)
  have HSH := Lib.hid (fun W => share_any x W hx)
  have HVV := Lib.hid hv
  have HFO : Hid ((first (rd x.data.toList)).ok ps.length) := Lib.hid (first_ok _ (by rw [tx_rd hx]; exact (vld_iff.1 hx).1))
  have HA := Lib.hid h
  generalize rd x.data.toList = t at *
  obtain ⟨A, cap, rfl⟩ : ∃ A cap, v = .slice A ps.length cap := by
    rcases h with ⟨rfl, h⟩ | ⟨_, b, off, cap, rfl, _⟩
    · obtain ⟨A, cap, rfl⟩ := empty_arg h
      exact ⟨A, cap, rfl⟩
    · exact ⟨_, _, rfl⟩
  clear h hv hx
  obtain ⟨n, hn⟩ : ∃ n, n = ps.length := ⟨_, rfl⟩
  rw [← hn] at HV HNM HA HFO ⊢
  have HN := Lib.hid hn; clear hn
  refine (callsIn_wide (n := 5)).1 ?_
  refine callsIn_of_wp_marks Try.func83 rfl trivial ?_ rfl
  simp only [Try.ntmps83, List.size_toArray, List.length_cons, List.length_nil, Nat.reduceAdd, Nat.reduceSub, Array.replicate_succ, Array.replicate_zero, List.push_toArray, List.append_toArray, List.nil_append, List.cons_append]
  refine wpIn_wide.2 ?_
  go_wp2_with fail
  have h0 := res0_is w K
  refine (HV.out _ (HA.out.below h0.below)).mono ?_
  rintro e w1 ⟨rfl, hb1⟩
  have h1 : Res w K w1 := h0.later hb1
  clear hb1 h0
  go_wp2_with fail
  refine (HX.out _).mono ?_
  rintro e w2 ⟨rfl, hb2⟩
  have h2 : Res w K w2 := h1.later hb2
  clear h1 hb2
  have HR2 := Lib.hid h2
  have c0 := h2.c0
  have k0 : ¬ (K : Int) < 0 := by omega
  have k1 : (0 : Int) ≤ (K : Int) := by omega
  have k2 : (K : Int) ≤ 10000000 := by omega
  clear h2
  go_wp2_with fail
  refine (HNM.out _ (HA.out.below HR2.out.below)).mono ?_
  rintro e w3 ⟨M, C, rfl, hMM, hM2, htag, hb3⟩
  have hM : Mach w3 w.heap.size M C ps st0 := hMM _ HR2.out.below.size (fun k h00 hk => by
    rcases HA.out with ⟨e1, _⟩ | ⟨_, b, off, cap', e1, h1⟩
    · rw [e1] at h00; simp at h00
    · injection e1 with e2
      rw [e2] at hk
      cases hk
      exact h1.1)
  have hsz2 := HR2.out.size
  have hMlt := hM.tagM.lt
  have hb4 : Below w3.heap.size w3 (w3.alloc (.cells #[.pointer (some ⟨M, 0, none⟩)] 100)) := (Below.refl _ _).alloc (Nat.le_refl _) _
  have HR4 := Lib.hid ((HR2.out.later hb3).later hb4)
  have HM4 := Lib.hid (hM.below hb4)
  have c9 : (w3.alloc (.cells #[.pointer (some ⟨M, 0, none⟩)] 100)).cell? ⟨w3.heap.size, 0, none⟩ = some (.pointer (some ⟨M, 0, none⟩)) := by rw [World.cell?_alloc_new]; rfl
  have C9 := Lib.hid c9
  have HBD := Lib.hid (Below.refl (w3.alloc (.cells #[.pointer (some ⟨M, 0, none⟩)] 100)).heap.size (w3.alloc (.cells #[.pointer (some ⟨M, 0, none⟩)] 100))).drew
  have hn9 : (⟨M, 3, none⟩ : Addr) ≠ ⟨w3.heap.size, 0, none⟩ := fun e => by injection e with e1; omega
  have HN9 := Lib.hid hn9
  have hold : w2.heap.size ≤ M := hM2
  clear c0 hM hMM hM2 htag hb3 hb4 c9 hn9
  go_wp2_with fail
  go_region_held3 (fun w' => w'.cell? ⟨w3.heap.size, 0, none⟩ = some (.pointer (some ⟨M, 0, none⟩)))
    (first | exact C9.out | exact g1 | exact j1 | go_keep)
    (first | (go_simp; go_at_call 71; refine (HSH.out _).mono ?_; rintro e w5 ⟨v5, rfl, hv5, hb5⟩; obtain ⟨V5, rfl⟩ := hv5.one; have hbd := HBD.out.trans hb5; have hM5 := HM4.out.below hbd; have g1 := cell_keep hb5 C9.out; obtain ⟨u5, g3, _⟩ := hM5.regs 0 (by omega); have g4 := hM5.free 3; have j1 := (set_other (v := .pointer V5) HN9.out).trans g1))
  have HM6 : Hid (Mach (w5.setCell ⟨M, 3, none⟩ (.pointer V5)) w.heap.size M C ps (first t)) := Lib.hid (by
    have h := (hM5.reg st0_len hv5 (a := 0) (by omega)).1
    rw [first_set] at h
    exact h)
  have HB6 : Hid (But M w5 (w5.setCell ⟨M, 3, none⟩ (.pointer V5))) := Lib.hid (But.set _ _)
  have hR5 := HR4.out.later hbd
  have hR6 : Res w K (w5.setCell ⟨M, 3, none⟩ (.pointer V5)) := hR5.keep HB6.out.size (hR5.below.setCell (by simp; omega) _) (fun b _ h2 => Below.heap_setCell _ _ _ _ (by simp; omega))
  have HR6 := Lib.hid hR6
  have hM9 : w3.heap.size ≠ M := by omega
  clear hM5 hb5 hbd g1 g3 g4 hR5 hR6 hv5 HB6 HM4 HR4
  have c9 := j1
  clear j1
  generalize w5.setCell ⟨M, 3, none⟩ (.pointer V5) = w6 at *
  go_wp2_with fail
  have hZ0 : AdvZ w K w3.heap.size M w6 := ⟨HR6.out, c9⟩
  have hwM : w.heap.size + 1 + 1 + 1 < M := by omega
  have hB6 : w.heap.size ≤ w6.heap.size := HR6.out.below.size
  have HZ0 := Lib.hid hZ0
  clear hZ0 c9 HN9
  refine (wpIn_wide (n := 5)).1 ?_
  refine range_shared (n := 5) (gf := 122) (fi := #[.pointer (some ⟨M, 0, none⟩)]) (lb := #[]) rfl (enters_of Try.func122 (by kernel_rfl) rfl) rfl
    (RunI M C w.heap.size K ps (first t) (AdvZ w K w3.heap.size M)) (RunI' M C w.heap.size K ps (first t) (AdvZ w K w3.heap.size M)) (AdvX w K w.heap.size M C ps (first t)) (RunD K ps (first t) (AdvZ w K w3.heap.size M))
    (fun k W W' row hs hg hr => by obtain ⟨s, h1, h2, h3, h4⟩ := hs; exact ⟨s, h1, h2, mach_own h3 hB6 hg hr, advZ_own h4 hB6 hg hr⟩)
    (fun k W W' row hs hg hr => by obtain ⟨s, h1, h2, h2b, h3, h4⟩ := hs; exact ⟨s, h1, h2, h2b, mach_own h3 hB6 hg hr, advZ_own h4 hB6 hg hr⟩)
    (fun _ W W' row hs hg hr => advX_own hs hB6 hB6 hg hr)
    (fun _ W W' row hs hg hr => by obtain ⟨k, s, h1, h2, h2b, h3, h4⟩ := hs; exact ⟨k, s, h1, h2, h2b, h3, advZ_own h4 hB6 hg hr⟩)
    ⟨first t, .zero, Nat.zero_le _, HM6.out, HZ0.out⟩
    (fun l Z Jx hZ hY W hI hz => states_in 4 l M C w.heap.size K ps (first t) HVV.out (by rw [← HN.out]; exact HFO.out) hk (AdvZ w K w3.heap.size M) Z Jx (fun W W' hb h => advZ_but hb h hwM hM9) (fun W W' hb htag hz => hZ W W' (hb.keepsFrom (by obtain ⟨D, fr, h⟩ := htag; exact ⟨D, _, fr, h⟩)) hz) hY W hI hz)
    ?round ?done ?stop
  case round =>
    intro l k W hi
    gi_wp2
    refine ⟨trivial, fun W2 hi2 => ?_⟩
    obtain ⟨s, hst, hkK, hM, hZ⟩ := hi2
    have HST := Lib.hid hst; have HM := Lib.hid hM; have HZ := Lib.hid hZ
    obtain ⟨hR, h9⟩ := hZ
    obtain ⟨c0, c1, c2, c3, f1, f2, f3, hs, hb, _⟩ := hR
    have HB := Lib.hid hb
    clear hst hM hb hi
    by_cases hkk : k = K
    · subst hkk
      gi_wp2_with fail
      refine ⟨trivial, ?_⟩
      gi_wp2
      exact adv_close HZ.out HST.out (Nat.le_refl _) (.inl rfl) HM.out hwM
    · have hkk' : ((k : Int) == (K : Int)) = false := by simp; omega
      have HE := Lib.hid (ended_is HM.out HVV.out (HST.out.ok HVV.out (by rw [← HN.out]; exact HFO.out)))
      have HKK := Lib.hid hkk
      clear hkk
      cases hed : (s.at_ == ps.length) with
      | true =>
        rw [hed] at HE
        have HEN : Hid (s.at_ = ps.length) := Lib.hid (by simpa using hed)
        clear hed
        gi_wp2_with fail
        refine ⟨trivial, (CallsIn.inRound l (callsIn_wide.2 HE.out)).mono ?_⟩
        rintro e W3 ⟨rfl, q, rfl⟩
        have hbd : Below W2.heap.size W2 (W2.drewN q) := bdrewN (Below.refl _ _) q
        have HZ3 := Lib.hid (advZ_but (But.of_below hbd) HZ.out hwM hM9)
        have HM3 := Lib.hid (HM.out.below hbd)
        have HKF : Hid (KeepsFrom w6.heap.size W2 (W2.drewN q)) := Lib.hid ⟨Nat.le_refl _, fun _ _ _ h _ => h⟩
        clear hbd
        gi_wp2
        obtain ⟨g1, g2⟩ := adv_close (B := w6.heap.size) HZ3.out HST.out hkK (.inr HEN.out) HM3.out hwM
        exact ⟨HKF.out.trans g1, g2⟩
      | false =>
        rw [hed] at HE
        have HEN : Hid (s.at_ ≠ ps.length) := Lib.hid (by simpa using hed)
        clear hed
        gi_wp2_with fail
        refine ⟨trivial, (CallsIn.inRound l (callsIn_wide.2 HE.out)).mono ?_⟩
        rintro e W3 ⟨rfl, q, rfl⟩
        have hbd : Below W2.heap.size W2 (W2.drewN q) := bdrewN (Below.refl _ _) q
        have HZ3 := Lib.hid (advZ_but (But.of_below hbd) HZ.out hwM hM9)
        have HM3 := Lib.hid (HM.out.below hbd)
        have HKF : Hid (KeepsFrom w6.heap.size W2 (W2.drewN q)) := Lib.hid ⟨Nat.le_refl _, fun _ _ _ h _ => h⟩
        clear hbd
        gi_wp2
        exact ⟨HKF.out, s, HST.out, by have := HKK.out; omega, HEN.out, HM3.out, HZ3.out⟩
  case done =>
    rintro D W hD ⟨k, s, hst, hkK, hne, hlg, hZ⟩ hDD
    have HST := Lib.hid hst; have HNE := Lib.hid hne; have HLG := Lib.hid hlg; have HZ := Lib.hid hZ
    obtain ⟨hR, h9⟩ := hZ
    obtain ⟨c0, c1, c2, c3, f1, f2, f3, hs, hb, _⟩ := hR
    clear hst hne hlg hb
    obtain ⟨p1, p2, p3, pb⟩ := HZ.out.1.set (.pointer none) (.int .i64 0) (.int .i64 3)
    have hK1 := (keepsFrom_set 0 w W (.pointer none) (.int .i64 0) (.int .i64 3)).same D _ (Nat.zero_le _) hDD rfl
    have P1 := Lib.hid p1; have P2 := Lib.hid p2; have P3 := Lib.hid p3; have PB := Lib.hid pb; have HK1 := Lib.hid hK1
    have HDD := Lib.hid hDD
    clear p1 p2 p3 pb hK1 hDD
    go_wp2
    refine ⟨by simp, .inl ⟨_, _, rfl, run_takeDeferred HK1.out, ?_⟩⟩
    have q1 := cell_kept P1.out (grownBy_putObj' _ D (.deferred none)) (fun r e => by cases e; exact ⟨_, HK1.out, rfl⟩)
    have q2 := cell_kept P2.out (grownBy_putObj' _ D (.deferred none)) (fun r e => by cases e; exact ⟨_, HK1.out, rfl⟩)
    have q3 := cell_kept P3.out (grownBy_putObj' _ D (.deferred none)) (fun r e => by cases e; exact ⟨_, HK1.out, rfl⟩)
    unfold resSet at q1 q2 q3
    refine ⟨.tuple #[.pointer none, .int .i64 0, .int .i64 3], by simp [results, Try.f83, go_sem, q1, q2, q3], ?_, ?_⟩
    · exact PB.out.trans (belowK_b (w := w) (Nat.le_refl _) _ D _ _ (by omega) HK1.out rfl rfl)
    · rw [runTo_large HST.out hkK HNE.out HLG.out]
  case stop =>
    rintro D W hD ⟨k, s, hst, hkK, he, hM, hb, g1, g2, g3⟩ hDD
    have HST := Lib.hid hst; have HE := Lib.hid he; have HM := Lib.hid hM; have HB := Lib.hid hb; have G1 := Lib.hid g1; have G2 := Lib.hid g2; have G3 := Lib.hid g3; have HDD := Lib.hid hDD
    clear hst he hM hb g1 g2 g3 hDD
    gi_wp2
    refine ⟨by simp, .inl ⟨_, _, rfl, run_takeDeferred HDD.out, ?_⟩⟩
    have q1 := cell_kept G1.out (grownBy_putObj' _ D (.deferred none)) (fun r e => by cases e; exact ⟨_, HDD.out, rfl⟩)
    have q2 := cell_kept G2.out (grownBy_putObj' _ D (.deferred none)) (fun r e => by cases e; exact ⟨_, HDD.out, rfl⟩)
    have q3 := cell_kept G3.out (grownBy_putObj' _ D (.deferred none)) (fun r e => by cases e; exact ⟨_, HDD.out, rfl⟩)
    refine ⟨.tuple #[.pointer (some ⟨M, 0, none⟩), .int .i64 (k : Int), .int .i64 0], by simp [results, Try.f83, go_sem, q1, q2, q3], ?_, ?_⟩
    · exact HB.out.trans (belowK_b (w := w) (Nat.le_refl _) _ D _ _ (by omega) HDD.out rfl rfl)
    · rw [runTo_is HST.out hkK HE.out]
      exact ⟨_, M, C, rfl, mach_own (B := w6.heap.size) HM.out hB6 (grownBy_putObj' _ D (.deferred none)) (fun r e => by cases e; exact ⟨hD, _, HDD.out, rfl⟩), Nat.le_refl _⟩
end Go.Proofs.Ytpiahjbpidcjpaa
