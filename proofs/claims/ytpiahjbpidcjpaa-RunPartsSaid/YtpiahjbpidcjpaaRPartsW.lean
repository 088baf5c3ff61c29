/- RunParts: its walk. By an AI agent. -/
import Derived.Test.YtpiahjbpidcjpaaRParts
namespace Go.Proofs.Ytpiahjbpidcjpaa
open Go.RowKit Pl

theorem stOf_is (s : St) : stOf s.at_ (regTexts s) = s := by
  cases s with
  | mk a r => simp [stOf, regTexts, List.map_map, Function.comp_def, rd_tx]
theorem regs_first {l : List UInt8} (h : vld l = true) : regTexts (first (rd l)) = l :: List.replicate 31 [48] := by
  simp [regTexts, first, tx_rd h, tx]
theorem SB.new {w : World} {B : Nat} {st : St} (h : StrAt w B 0 (regTexts st)) : SB w (w.alloc (.cells #[.int .i64 (st.at_ : Int), .slice (some ⟨B, 0, none⟩) 32 32] 26)) w.heap.size st := by
  have pb := tou_alloc w (.cells #[.int .i64 (st.at_ : Int), .slice (some ⟨B, 0, none⟩) 32 32] 26)
  exact ⟨by rw [World.cell?_alloc_new]; rfl, by simp, by simp, Nat.le_refl _, pb, B, by rw [World.cell?_alloc_new]; rfl, h.below pb⟩
theorem RT.put2 {E : Int} {k : Nat} {ts : List (List UInt8)} {w : World} {x y u v : Value} {g : Nat} {i : Int} (h : RT E k ts w x y) (ht : E = 0 → 0 < ts.length) (hg : w.cell? ⟨g, 0, none⟩ = some (.int .i64 i)) : RT E k ts ((w.setCell ⟨g, 0, none⟩ u).setCell ⟨g, 1, none⟩ v) x y := fun e => by
  obtain ⟨h1, B, h2, h3⟩ := h e
  have hne : g ≠ B := by
    rintro rfl
    have := h3.2 0 (ht e)
    rw [Nat.add_zero, hg] at this
    cases this
  have e1 : ∀ o j, (⟨g, o, none⟩ : Addr) ≠ ⟨B, 0 + j, none⟩ := fun o j e => by injection e with e1; exact hne e1
  exact ⟨h1, B, h2, by simpa using h3.1, fun j hj => by rw [set_other (e1 _ _), set_other (e1 _ _)]; exact h3.2 j hj⟩
def Tie (ps : List Ins) (s : St) (E : Int) (k : Nat) (ts : List (List UInt8)) : Prop := (stepP ps s = none ∧ E = 3) ∨ ∃ s', stepP ps s = some s' ∧ E = 0 ∧ k = s'.at_ ∧ ts = regTexts s' ∧ ts.length = 32
theorem Step_tie (ps : List Ins) (s : St) (hv : PValid ps) (hok : s.ok ps.length) (hne : s.at_ ≠ ps.length) :
    ∃ (E : Int) (k : Nat) (ts : List (List UInt8)), Tie ps s E k ts ∧ ∀ W v B c, ArgP W v ps → StrAt W B 0 (regTexts s) → Calls Try.prog 16 #[v, .agg #[.int .i64 (s.at_ : Int), .slice (some ⟨B, 0, none⟩) 32 c]] W (TStep W E k ts) := by
  cases hs : stepP ps s with
  | none =>
    refine ⟨3, 0, [], .inl ⟨hs, rfl⟩, fun W v B c hA hS => (Step_st ps s hv hok hne W v B c hA hS).mono fun e w' h => ?_⟩
    unfold SOut at h
    rw [stOf_is, hs] at h
    obtain ⟨h1, h2⟩ := h
    exact ⟨h2, _, _, h1, (fun h => by cases h), _, _, _, _, rfl, rfl⟩
  | some s' =>
    have h32 : (regTexts s').length = 32 := by simp [regTexts, (stepP_ok hv hok hs).2.1]
    refine ⟨0, s'.at_, regTexts s', .inr ⟨s', hs, rfl, rfl, rfl, h32⟩, fun W v B c hA hS => (Step_st ps s hv hok hne W v B c hA hS).mono fun e w' h => ?_⟩
    unfold SOut at h
    rw [stOf_is, hs] at h
    obtain ⟨h1, B', h2, _, h3⟩ := h
    exact ⟨h1, _, _, h2, fun _ => ⟨rfl, B', rfl, srow_all h3 h32⟩, _, _, _, _, rfl, rfl⟩
/-- what holds within the region that calls Step in the loop -/
structure Stq (w0 : World) (VA : Value) (g B : Nat) (ps : List Ins) (s : St) (E : Int) (k : Nat) (ts : List (List UInt8)) (l : Nat → Bool) (w : World) (v : Nat → Value) : Prop where
  b : Below w0.heap.size w0 w
  f0 : l 0 = true → v 62 = VA
  f1 : l 1 = true → l 3 = false → ArgP w (v 63) ps
  f2 : l 2 = true → v 64 = .agg #[.int .i64 (s.at_ : Int), .slice (some ⟨B, 0, none⟩) 32 32]
  row : l 3 = false → StrAt w B 0 (regTexts s)
  f3 : l 3 = true → ∃ x y, v 65 = .tuple #[.agg #[x, y], .int .i64 E] ∧ RT E k ts w x y ∧ SV x y ∧ (l 7 = true → w.cell? ⟨g, 0, none⟩ = some x ∧ w.cell? ⟨g, 1, none⟩ = some y)
  f4 : l 4 = true → v 61 = v 65
  f5 : l 5 = true → ∃ x y e, v 66 = .agg #[x, y] ∧ v 65 = .tuple #[.agg #[x, y], e] ∧ SV x y
  f6 : l 6 = true → v 67 = .int .i64 E
  m0 : l 7 = false → w.cell? ⟨g, 0, none⟩ = some (.int .i64 (s.at_ : Int)) ∧ w.cell? ⟨g, 1, none⟩ = some (.slice (some ⟨B, 0, none⟩) 32 32)
  lt : g < w.heap.size
  fr : w.frozen? ⟨g, 0, none⟩ = false ∧ w.frozen? ⟨g, 1, none⟩ = false
  f8 : l 8 = true → v 10 = .int .i64 E
  g4 : l 4 = true → l 3 = true
  g5 : l 5 = true → l 3 = true
  g7 : l 7 = true → l 2 = true ∧ l 3 = true
section
variable {w0 : World} {VA : Value} {g B : Nat} {ps : List Ins} {s : St} {E : Int} {k : Nat} {ts : List (List UInt8)} {l : Nat → Bool} {w : World} {v : Nat → Value}
theorem Stq.later (h : Stq w0 VA g B ps s E k ts l w v) {w' : World} (hb : Below w.heap.size w w') : Stq w0 VA g B ps s E k ts l w' v :=
  ⟨bstep h.b hb, h.f0, fun i j => (h.f1 i j).below hb, h.f2, fun i => (h.row i).below hb, fun i => by
    obtain ⟨x, y, h1, h2, hv, h3⟩ := h.f3 i
    exact ⟨x, y, h1, h2.below hb, hv, fun j => ⟨cell_keep hb (h3 j).1, cell_keep hb (h3 j).2⟩⟩, h.f4, h.f5, h.f6, fun i => ⟨cell_keep hb (h.m0 i).1, cell_keep hb (h.m0 i).2⟩, Nat.lt_of_lt_of_le h.lt hb.size, ⟨(hb.frozen (p := ⟨g, 0, none⟩) h.lt).trans h.fr.1, (hb.frozen (p := ⟨g, 1, none⟩) h.lt).trans h.fr.2⟩, h.f8, h.g4, h.g5, h.g7⟩
theorem Stq.s0 (h : Stq w0 VA g B ps s E k ts l w v) : Stq w0 VA g B ps s E k ts (tupd l 0) w (tput v 62 VA) :=
  ⟨h.b, fun _ => rfl, h.f1, h.f2, h.row, h.f3, h.f4, h.f5, h.f6, h.m0, h.lt, h.fr, h.f8, h.g4, h.g5, h.g7⟩
theorem Stq.s1 (h : Stq w0 VA g B ps s E k ts l w v) {x : Value} (hx : ArgP w x ps) : Stq w0 VA g B ps s E k ts (tupd l 1) w (tput v 63 x) :=
  ⟨h.b, h.f0, fun _ _ => hx, h.f2, h.row, h.f3, h.f4, h.f5, h.f6, h.m0, h.lt, h.fr, h.f8, h.g4, h.g5, h.g7⟩
theorem Stq.s2 (h : Stq w0 VA g B ps s E k ts l w v) : Stq w0 VA g B ps s E k ts (tupd l 2) w (tput v 64 (.agg #[.int .i64 (s.at_ : Int), .slice (some ⟨B, 0, none⟩) 32 32])) :=
  ⟨h.b, h.f0, h.f1, fun _ => rfl, h.row, h.f3, h.f4, h.f5, h.f6, h.m0, h.lt, h.fr, h.f8, h.g4, h.g5, fun e => ⟨rfl, (h.g7 e).2⟩⟩
theorem Stq.s3 (h : Stq w0 VA g B ps s E k ts l w v) {x y : Value} (hx : RT E k ts w x y) (hv : SV x y) (h4 : l 4 = false) (h5 : l 5 = false) (h7 : l 7 = false) : Stq w0 VA g B ps s E k ts (tupd l 3) w (tput v 65 (.tuple #[.agg #[x, y], .int .i64 E])) :=
  ⟨h.b, h.f0, fun _ e => (by cases (show true = false from e)), h.f2, fun e => (by cases (show true = false from e)), fun _ => ⟨x, y, rfl, hx, hv, fun e => (by rw [show l 7 = true from e] at h7; cases h7)⟩, fun e => (by rw [show l 4 = true from e] at h4; cases h4), fun e => (by rw [show l 5 = true from e] at h5; cases h5), h.f6, h.m0, h.lt, h.fr, h.f8, fun _ => rfl, fun _ => rfl, fun e => ⟨(h.g7 e).1, rfl⟩⟩
theorem Stq.s4 (h : Stq w0 VA g B ps s E k ts l w v) (h3 : l 3 = true) {X : Value} (hX : v 65 = X) : Stq w0 VA g B ps s E k ts (tupd l 4) w (tput v 61 X) :=
  ⟨h.b, h.f0, h.f1, h.f2, h.row, h.f3, fun _ => hX.symm, h.f5, h.f6, h.m0, h.lt, h.fr, h.f8, fun _ => h3, h.g5, h.g7⟩
theorem Stq.s5 (h : Stq w0 VA g B ps s E k ts l w v) (h3 : l 3 = true) {x y e : Value} (hx : v 65 = .tuple #[.agg #[x, y], e]) (hv : SV x y) : Stq w0 VA g B ps s E k ts (tupd l 5) w (tput v 66 (.agg #[x, y])) :=
  ⟨h.b, h.f0, h.f1, h.f2, h.row, h.f3, h.f4, fun _ => ⟨x, y, e, rfl, hx, hv⟩, h.f6, h.m0, h.lt, h.fr, h.f8, h.g4, fun _ => h3, h.g7⟩
theorem Stq.s6 (h : Stq w0 VA g B ps s E k ts l w v) : Stq w0 VA g B ps s E k ts (tupd l 6) w (tput v 67 (.int .i64 E)) :=
  ⟨h.b, h.f0, h.f1, h.f2, h.row, h.f3, h.f4, h.f5, fun _ => rfl, h.m0, h.lt, h.fr, h.f8, h.g4, h.g5, h.g7⟩
theorem Stq.s7 (h : Stq w0 VA g B ps s E k ts l w v) (hg : w0.heap.size ≤ g) (ht : E = 0 → 0 < ts.length) (h2 : l 2 = true) (h3 : l 3 = true) (h7 : l 7 = false) {x y e : Value} (h65 : v 65 = .tuple #[.agg #[x, y], e]) :
    Stq w0 VA g B ps s E k ts (tupd l 7) ((w.setCell ⟨g, 0, none⟩ x).setCell ⟨g, 1, none⟩ y) v := by
  obtain ⟨c0, c1⟩ := h.m0 h7
  refine ⟨(h.b.setCell (p := ⟨g, 0, none⟩) hg _).setCell (p := ⟨g, 1, none⟩) hg _, h.f0, fun _ e => (by rw [show l 3 = false from e] at h3; cases h3), h.f2, fun e => (by rw [show l 3 = false from e] at h3; cases h3), fun _ => ?_, h.f4, h.f5, h.f6, fun e => (by cases (show true = false from e)), by simpa using h.lt, ⟨by rw [World.frozen?_setCell, World.frozen?_setCell]; exact h.fr.1, by rw [World.frozen?_setCell, World.frozen?_setCell]; exact h.fr.2⟩, h.f8, h.g4, h.g5, fun _ => ⟨h2, h3⟩⟩
  obtain ⟨x', y', h1, hr, hv, _⟩ := h.f3 h3
  rw [h65] at h1
  simp only [Value.tuple.injEq, Array.mk.injEq, List.cons.injEq, Value.agg.injEq, and_true] at h1
  obtain ⟨⟨rfl, rfl⟩, rfl⟩ := h1
  refine ⟨x, y, h65, hr.put2 ht c0, hv, fun _ => ⟨?_, ?_⟩⟩
  · rw [set_other (addr_ne (by omega)), set_same c0]
  · refine set_same (u := .slice (some ⟨B, 0, none⟩) 32 32) ?_
    rw [set_other (addr_ne (by omega)), c1]
theorem Stq.s8 (h : Stq w0 VA g B ps s E k ts l w v) : Stq w0 VA g B ps s E k ts (tupd l 8) w (tput v 10 (.int .i64 E)) :=
  ⟨h.b, h.f0, h.f1, h.f2, h.row, h.f3, h.f4, h.f5, h.f6, h.m0, h.lt, h.fr, fun _ => rfl, h.g4, h.g5, h.g7⟩
end
theorem sames_32 (W : World) (s : St) (B B2 cap cap2 : Nat) (h32 : (regTexts s).length = 32) (h1 : StrAt W B 0 (regTexts s)) (h2 : StrAt W B2 0 (regTexts s)) :
    Calls Try.prog 18 #[.agg #[.int .i64 (s.at_ : Int), .slice (some ⟨B, 0, none⟩) 32 cap], .agg #[.int .i64 (s.at_ : Int), .slice (some ⟨B2, 0, none⟩) 32 cap2]] W fun e w' => e = .returned (.bool true) ∧ Below W.heap.size W w' := by
  have := SameState_yes W (s.at_ : Int) B 0 cap B2 0 cap2 (regTexts s) h1 h2 (by omega)
  rw [h32] at this; exact this
theorem runRes_end {ps : List Ins} {K n : Nat} {t : Tr} {s : St} (h : runTo ps K (first t) = some (s, n)) (he : s.at_ = ps.length) : runRes ps K t = .tuple #[.string (S (tx (s.reg 0))), .int .i64 (n : Int), .int .i64 0] := by
  unfold runRes; rw [h]; exact if_pos he
theorem runRes_go {ps : List Ins} {K n : Nat} {t : Tr} {s : St} (h : runTo ps K (first t) = some (s, n)) (he : ¬ s.at_ = ps.length) : runRes ps K t = .tuple #[.string (S []), .int .i64 0, .int .i64 7] := by
  unfold runRes; rw [h]; exact if_neg he
theorem runRes_large {ps : List Ins} {K : Nat} {t : Tr} (h : runTo ps K (first t) = none) : runRes ps K t = .tuple #[.string (S []), .int .i64 0, .int .i64 3] := by
  unfold runRes; rw [h]
theorem reg_text0 {s : St} {n : Nat} (h : s.ok n) : (regTexts s).getD 0 [] = tx (s.reg 0) := by
  have h32 := h.2.1
  simp only [regTexts, List.getD, List.getElem?_map, St.reg]
  rw [List.getElem?_eq_getElem (by omega)]
  simp
  rw [List.getElem?_eq_getElem (by omega)]
  rfl
set_option maxHeartbeats 6400000 in
set_option maxRecDepth 100000 in
theorem rparts_main (w : World) (v : Value) (x : ByteArray) (K : Nat) (ps : List Ins) (h : ArgP w v ps) (hp : PValid ps) (hv : vld x.data.toList = true) (hk : K ≤ 300) :
    Calls Try.prog 4 #[v, .string x, .int .i64 (K : Int)] w (AwkP w) := by
  have HPV := Lib.hid (PV_arg w v ps true h (by have := hp.1; omega) (fun x hx => by have := PV_tree_le hp hx; omega) (by simp [hp]))
  have HX := Lib.hid (fun W => rValid_eq true x W (by have := vld_size hv; omega) hv)
  have HT := Lib.hid (fun W (hb : Below w.heap.size w W) => twin_any W v ps (h.below hb) (by have := hp.1; omega))
  have HF := Lib.hid (fun W v h => First_some W v x ps h hp hv)
  have HST := Lib.hid (fun s hok hne => Step_st ps s hp hok hne)
  have hok0 : (first (rd x.data.toList)).ok ps.length := first_ok _ (by rw [tx_rd hv]; exact (vld_iff.1 hv).1)
  have HOK := Lib.hid (fun s n (hs : Steps ps (first (rd x.data.toList)) n s) => hs.ok hp hok0)
  have HAS := Lib.hid (fun W v n s h hr => After_some W v ps x K n s h hp hv (by omega) hr)
  have HAN := Lib.hid (fun W v h hr => After_none W v ps x K h hp hv (by omega) hr)
  have HRN := Lib.hid (fun W v h => Run_yes W v ps x K h hp hv (by omega))
  have HRF := Lib.hid (regs_first hv)
  have HSS := Lib.hid (fun W (s : St) (B B2 cap cap2 : Nat) (h32 : (regTexts s).length = 32) (h1 : StrAt W B 0 (regTexts s)) (h2 : StrAt W B2 0 (regTexts s)) => sames_32 W s B B2 cap cap2 h32 h1 h2)
  have HP := Lib.hid hp
  have hm4 : ps.length ≤ 4000 := hp.1
  obtain ⟨pa, pc, rfl⟩ := tou_form h
  clear h hv hok0 hp
  generalize rd x.data.toList = t at *
  go_enter Try.func4, Try.ntmps4
  go_wp2_with fail
  refine HPV.out.mono ?_
  rintro e w1 ⟨rfl, h1⟩
  have H1 := Lib.hid h1
  clear h1
  go_wp2_with fail
  refine (HX.out _).mono ?_
  rintro e w5 ⟨rfl, rfl⟩
  have hk0 : ¬ (K : Int) < 0 := by omega
  have hk1 : ¬ (300 : Int) < (K : Int) := by omega
  go_wp2_with fail
  refine (HT.out _ H1.out).mono ?_
  rintro e w2 ⟨v2, rfl, a2, h2⟩
  have H2 := Lib.hid (bstep H1.out h2); have A2 := Lib.hid a2
  clear h2 a2
  go_wp2_with fail
  refine (HF.out _ _ A2.out).mono ?_
  rintro e w4 ⟨h4, B1, rfl, _, hrow⟩
  have H4 := Lib.hid (bstep H2.out h4)
  rw [← HRF.out] at hrow
  have hsb := SB.new hrow
  rw [show (((first t).at_ : Nat) : Int) = 0 from rfl] at hsb
  have HSB := Lib.hid hsb
  clear h4 hrow hsb
  go_wp2_with fail
  generalize hm : ps.length = m at *
  have HM := Lib.hid hm
  clear hm
  generalize hg : w4.heap.size = g at *
  have HG := Lib.hid hg
  clear hg
  go_loopw [9, 10] (fun vn vf wr => ∃ (n : Nat) (s : St), n ≤ K ∧ vn = .int .i64 n ∧ vf = .int .i64 0 ∧ Hid (Steps ps (first t) n s) ∧ Hid (SB w4 wr g s)) (fun vn _ _ => K - (intOf vn).toNat)
  case atStart => exact ⟨0, first t, Nat.zero_le _, rfl, rfl, Lib.hid Steps.zero, HSB⟩
  case round =>
    obtain ⟨n, s, hn, rfl, rfl, HS, HB⟩ := hrel
    have hok := HOK.out s n HS.out
    have hle := hok.1
    have s0 := HB.out.c0
    obtain ⟨B, s1, hrow⟩ := HB.out.row
    have HROW := Lib.hid hrow; have HOKS := Lib.hid hok
    clear hrow hok
    by_cases hgo : n < K ∧ s.at_ ≠ m
    · have hn1 : (n : Int) < (K : Int) := by omega
      have hn2 : (s.at_ : Int) < (m : Int) := by omega
      go_wp2_with fail
      obtain ⟨E, k, ts, hTI, hti⟩ := Step_tie ps s HP.out (by rw [HM.out]; exact HOKS.out) (by rw [HM.out]; exact hgo.2)
      have HTI := Lib.hid hti; have HTT := Lib.hid hTI
      have HTS : Hid (E = 0 → 0 < ts.length) := Lib.hid (fun he => by rcases hTI with ⟨_, h⟩ | ⟨_, _, _, _, _, h⟩ <;> omega)
      clear hTI hti
      refine wp_region_inv (P := Try.prog) (fun listed a' w' => ∃ v : Nat → Value, a' = { tmps := #[(.slice pa m pc), .string x, .int .i64 (K : Int), undef, undef, undef, v 6, .pointer (some ⟨g, 0, none⟩), .int .i64 0, .int .i64 (n : Int), v 10, v 11, v 12, v 13, v 14, v 15, v 16, undef, undef, undef, undef, undef, undef, (.slice pa m pc), .bool true, .bool false, .bool false, .string x, .bool true, .bool false, .bool false, .bool false, .int .i64 (K : Int), .bool (decide ((K : Int) < 0)), .bool (decide ((K : Int) < 0)), .bool (decide ((K : Int) < 0)), .int .i64 (K : Int), .bool (decide ((300 : Int) < (K : Int))), .bool (decide ((K : Int) < 0) || decide ((300 : Int) < (K : Int))), undef, .tuple #[.agg #[.int .i64 0, .slice (some ⟨B1, 0, none⟩) 32 32], .int .i64 0], (.slice pa m pc), v2, .string x, .tuple #[.agg #[.int .i64 0, .slice (some ⟨B1, 0, none⟩) 32 32], .int .i64 0], .agg #[.int .i64 0, .slice (some ⟨B1, 0, none⟩) 32 32], .int .i64 0, .int .i64 0, .bool false, .int .i64 (n : Int), .int .i64 (K : Int), .bool true, .bool true, .pointer (some ⟨g, 0, none⟩), .int .i64 (s.at_ : Int), (.slice pa m pc), .int .i64 (m : Int), .bool true, .bool true, v 59, v 60, v 61, v 62, v 63, v 64, v 65, v 66, v 67, v 68, v 69, v 70, v 71, v 72, v 73, v 74, v 75, v 76, v 77, v 78, v 79, v 80, v 81, v 82, v 83, v 84, v 85, v 86, v 87, v 88, v 89, v 90, v 91, v 92, v 93, v 94, v 95, v 96, v 97, v 98, v 99, v 100, undef, undef, undef, undef, undef, undef, undef, undef, undef, undef, undef, undef, undef, undef, undef, undef, undef, undef, undef, undef, undef, undef, undef, undef, undef, undef, undef, undef, undef, undef, undef, undef, undef, undef, undef, undef, undef, undef, undef, undef, undef, undef, undef, undef, undef, undef, undef, undef, undef, undef, undef, undef, undef, undef, undef, undef, undef, undef, undef, undef, undef, undef, undef, undef, undef], defers := [] } ∧ Stq w4 (.slice pa m pc) g B ps s E k ts (fun j => listed.getD j false) w' v) (by kernel_rfl) ?start ?step ?done
      case start =>
        have hno : ∀ {P : Prop} {j : Nat}, (Array.replicate 9 false).getD j false = true → P := fun h => (tstart h).elim
        exact ⟨fun k => if k = 6 then u6 else if k = 10 then .int .i64 0 else if k = 11 then u11 else if k = 12 then u12 else if k = 13 then u13 else if k = 14 then u14 else if k = 15 then u15 else if k = 16 then u16 else if k = 33 then .bool (decide ((K : Int) < 0)) else if k = 34 then .bool (decide ((K : Int) < 0)) else if k = 35 then .bool (decide ((K : Int) < 0)) else if k = 37 then .bool (decide ((300 : Int) < (K : Int))) else if k = 38 then .bool (decide ((K : Int) < 0) || decide ((300 : Int) < (K : Int))) else if k = 42 then v2 else if k = 59 then u59 else if k = 60 then u60 else if k = 61 then u61 else if k = 62 then u62 else if k = 63 then u63 else if k = 64 then u64 else if k = 65 then u65 else if k = 66 then u66 else if k = 67 then u67 else if k = 68 then u68 else if k = 69 then u69 else if k = 70 then u70 else if k = 71 then u71 else if k = 72 then u72 else if k = 73 then u73 else if k = 74 then u74 else if k = 75 then u75 else if k = 76 then u76 else if k = 77 then u77 else if k = 78 then u78 else if k = 79 then u79 else if k = 80 then u80 else if k = 81 then u81 else if k = 82 then u82 else if k = 83 then u83 else if k = 84 then u84 else if k = 85 then u85 else if k = 86 then u86 else if k = 87 then u87 else if k = 88 then u88 else if k = 89 then u89 else if k = 90 then u90 else if k = 91 then u91 else if k = 92 then u92 else if k = 93 then u93 else if k = 94 then u94 else if k = 95 then u95 else if k = 96 then u96 else if k = 97 then u97 else if k = 98 then u98 else if k = 99 then u99 else u100, rfl, HB.out.below.drew, fun h => hno h, fun h => hno h, fun h => hno h, fun _ => HROW.out, fun h => hno h, fun h => hno h, fun h => hno h, fun h => hno h, fun _ => ⟨s0, s1⟩, cell_lt s0, ⟨HB.out.f0, HB.out.f1⟩, fun h => hno h, fun h => hno h, fun h => hno h, fun h => hno h⟩
      case step =>
        rintro listed a' w' i hs ⟨v, rfl, h⟩ hi
        obtain ⟨hnl, hil⟩ := tnot (mem_ready.1 hi).1
        have hlt : i = 0 ∨ i = 1 ∨ i = 2 ∨ i = 3 ∨ i = 4 ∨ i = 5 ∨ i = 6 ∨ i = 7 ∨ i = 8 := by
          obtain ⟨_, o, ho, _⟩ := mem_ready.1 hi
          have := (Array.getElem?_eq_some_iff.1 ho).1
          simp at this; omega
        rcases hlt with rfl | rfl | rfl | rfl | rfl | rfl | rfl | rfl | rfl
        · refine wpOp_step rfl (fun K' hK => ?_)
          go_simp
          exact hK _ _ ⟨tput v 62 (.slice pa m pc), rfl, tupd_eq hil ▸ h.s0⟩
        · have d0 := h.f0 (rdepT hi rfl ⟨0, .data⟩ (by simp) rfl)
          refine wpOp_step rfl (fun K' hK => ?_)
          go_simp
          refine (HT.out _ (bstep H4.out h.b)).mono ?_
          rintro e w6 ⟨x1, rfl, a1, h6⟩
          exact hK _ _ ⟨tput v 63 x1, by simp [tput, d0], tupd_eq hil ▸ (h.later h6).s1 a1⟩
        · obtain ⟨c0, c1⟩ := h.m0 (tun (l := fun j => listed.getD j false) (i := 2) (j := 7) (fun e => (h.g7 e).1) hnl)
          refine wpOp_step rfl (fun K' hK => ?_)
          go_simp
          exact hK _ _ ⟨tput v 64 (.agg #[.int .i64 (s.at_ : Int), .slice (some ⟨B, 0, none⟩) 32 32]), rfl, tupd_eq hil ▸ h.s2⟩
        · have d1 := h.f1 (rdepT hi rfl ⟨1, .data⟩ (by simp) rfl) hnl
          have d2 := h.f2 (rdepT hi rfl ⟨2, .data⟩ (by simp) rfl)
          refine wpOp_step rfl (fun K' hK => ?_)
          go_simp
          refine (HTI.out _ _ _ _ d1 (h.row hnl)).mono ?_
          rintro e w6 ⟨h6, x, y, rfl, r4, v4⟩
          exact hK _ _ ⟨tput v 65 (.tuple #[.agg #[x, y], .int .i64 E]), by simp [tput, d2], tupd_eq hil ▸ (h.later h6).s3 r4 v4 (tun (l := fun j => listed.getD j false) (i := 3) (j := 4) h.g4 hnl) (tun (l := fun j => listed.getD j false) (i := 3) (j := 5) h.g5 hnl) (tun (l := fun j => listed.getD j false) (i := 3) (j := 7) (fun e => (h.g7 e).2) hnl)⟩
        · obtain ⟨x, y, d3, _, v4, _⟩ := h.f3 (rdepT hi rfl ⟨3, .data⟩ (by simp) rfl)
          refine wpOp_step rfl (fun K' hK => ?_)
          go_simp
          exact hK _ _ ⟨tput v 61 (.tuple #[.agg #[x, y], .int .i64 E]), by simp [tput, d3], tupd_eq hil ▸ h.s4 (rdepT hi rfl ⟨3, .data⟩ (by simp) rfl) d3⟩
        · have d4 := h.f4 (rdepT hi rfl ⟨4, .data⟩ (by simp) rfl)
          obtain ⟨x, y, d3, _, v4, _⟩ := h.f3 (h.g4 (rdepT hi rfl ⟨4, .data⟩ (by simp) rfl))
          rw [d3] at d4
          refine wpOp_step rfl (fun K' hK => ?_)
          go_simp
          exact hK _ _ ⟨tput v 66 (.agg #[x, y]), by simp [tput, d3, d4], tupd_eq hil ▸ h.s5 (h.g4 (rdepT hi rfl ⟨4, .data⟩ (by simp) rfl)) d3 v4⟩
        · have d4 := h.f4 (rdepT hi rfl ⟨4, .data⟩ (by simp) rfl)
          obtain ⟨x, y, d3, _, v4, _⟩ := h.f3 (h.g4 (rdepT hi rfl ⟨4, .data⟩ (by simp) rfl))
          rw [d3] at d4
          refine wpOp_step rfl (fun K' hK => ?_)
          go_simp
          exact hK _ _ ⟨tput v 67 (.int .i64 E), by simp [tput, d3, d4], tupd_eq hil ▸ h.s6⟩
        · obtain ⟨_, _, e, d5, d3, xi, ya, yn, yc, rfl, rfl⟩ := h.f5 (rdepT hi rfl ⟨5, .data⟩ (by simp) rfl)
          obtain ⟨c0, c1⟩ := h.m0 hnl
          obtain ⟨f0, f1⟩ := h.fr
          refine wpOp_step rfl (fun K' hK => ?_)
          go_simp
          exact hK _ _ ⟨v, by simp [d3, d5], tupd_eq hil ▸ h.s7 HB.out.lt HTS.out (rdepT hi rfl ⟨2, .phase⟩ (by simp) rfl) (h.g5 (rdepT hi rfl ⟨5, .data⟩ (by simp) rfl)) hnl d3⟩
        · have d6 := h.f6 (rdepT hi rfl ⟨6, .data⟩ (by simp) rfl)
          refine wpOp_step rfl (fun K' hK => ?_)
          go_simp
          exact hK _ _ ⟨tput v 10 (.int .i64 E), by simp [tput, d6], tupd_eq hil ▸ h.s8⟩
      case done =>
        rintro listed a' w' hs hr ⟨v, rfl, h⟩
        have al : ∀ j, j < 9 → listed.getD j false = true := fun j hj => all_listed2 hs (by kernel_rfl) hr j hj
        obtain ⟨x, y, _, hR, hV, h9⟩ := h.f3 (al 3 (by omega))
        obtain ⟨g0, g1⟩ := h9 (al 7 (by omega))
        have d10 := h.f8 (al 8 (by omega))
        have HFR := Lib.hid h.fr; have HBD := Lib.hid h.b
        clear al h h9 hs hr s0 s1
        rcases HTT.out with ⟨hno, rfl⟩ | ⟨s', hs', rfl, rfl, rfl, h32⟩
        · have HRT := Lib.hid (runTo_large HS.out hgo.1 (by rw [HM.out]; exact hgo.2) hno)
          clear hno hR hV g0 g1 hgo
          go_wp2_with fail
          refine (HT.out _ (bstep H4.out HBD.out)).mono ?_
          rintro e w6 ⟨v6, rfl, a6, h6⟩
          have HB6 := Lib.hid (bstep HBD.out h6)
          clear h6
          go_wp2_with fail
          refine (HAN.out _ _ a6 HRT.out).mono ?_
          rintro e w7 h7
          unfold AftOut at h7
          rw [HRT.out] at h7
          obtain ⟨h7, rfl⟩ := h7
          have HB8 := Lib.hid ((bstep HB6.out h7).alloc (bstep HB6.out h7).size (.cells #[.int .i64 0, .slice none 0 0] 26))
          clear h7 a6
          go_wp2_with fail
          refine (HT.out _ (bstep H4.out HB8.out)).mono ?_
          rintro e w9 ⟨v9, rfl, a9, h9⟩
          have HB9 := Lib.hid (bstep HB8.out h9)
          clear h9
          go_wp2_with fail
          refine (HRN.out _ _ a9).mono ?_
          rintro e w10 ⟨rfl, h10⟩
          rw [runRes_large HRT.out]
          have HB10 := Lib.hid (bstep HB9.out h10)
          clear h10 a9
          go_wp2_with fail
          refine (awake3_any _).mono ?_
          rintro e w12 ⟨rfl, h12⟩
          go_wp2
          go_ret
          exact ⟨rfl, bstep H4.out (bstep HB10.out h12)⟩
        · obtain ⟨rfl, B', rfl, hS⟩ := hR rfl
          have HSB' : Hid (SB w4 w' g s') := Lib.hid ⟨g0, HFR.out.1, HFR.out.2, HB.out.lt, HBD.out, B', g1, hS⟩
          have HST' := Lib.hid (Steps.succ HS.out (by rw [HM.out]; exact hgo.2) hs')
          have hnK := hgo.1
          clear hV g0 g1 hS hs' hgo hR
          go_wp2_with fail
          go_roundw
          case rel => exact ⟨n + 1, s', by omega, by go_num, d10, HST', HSB'⟩
          case measure => simp [intOf]; omega
    · have hex : n = K ∨ s.at_ = m := by omega
      have HRT := Lib.hid (runTo_is HS.out hn (by rw [HM.out]; exact hex))
      have H32 : Hid ((regTexts s).length = 32) := Lib.hid (by simp [regTexts, HOKS.out.2.1])
      have HTX := Lib.hid (reg_text0 HOKS.out)
      by_cases hat : s.at_ = m
      · have HAT : Hid (s.at_ = ps.length) := Lib.hid (by rw [HM.out]; exact hat)
        by_cases hnk : n < K
        · have hn1 : (n : Int) < (K : Int) := by omega
          have hn2 : ¬ (s.at_ : Int) < (m : Int) := by omega
          clear hgo hex hat
          go_wp2_with fail
          refine (HT.out _ (bstep H4.out HB.out.below)).mono ?_
          rintro e w6 ⟨v6, rfl, a6, h6⟩
          have HK6 := Lib.hid h6
          have HB6 := Lib.hid (HB.out.later h6)
          have HROW6 := Lib.hid (HROW.out.below h6)
          clear h6
          go_wp2_with fail
          refine (HAS.out _ _ _ _ a6 HRT.out).mono ?_
          rintro e w7 h7
          unfold AftOut at h7
          rw [HRT.out] at h7
          obtain ⟨h7, B2, rfl, _, hrow2⟩ := h7
          have HK7 := Lib.hid h7
          have HB7 := Lib.hid (HB6.out.later h7)
          have HROW7 := Lib.hid (HROW6.out.below h7)
          have HR2 := Lib.hid (srow_all hrow2 H32.out)
          clear h7 hrow2 a6
          have hal := tou_alloc w7 (.cells #[.int .i64 (s.at_ : Int), .slice (some ⟨B2, 0, none⟩) 32 32] 26)
          have x0 : (w7.alloc (.cells #[.int .i64 (s.at_ : Int), .slice (some ⟨B2, 0, none⟩) 32 32] 26)).cell? ⟨w7.heap.size, 0, none⟩ = some (.int .i64 (s.at_ : Int)) := by rw [World.cell?_alloc_new]; rfl
          have x1 : (w7.alloc (.cells #[.int .i64 (s.at_ : Int), .slice (some ⟨B2, 0, none⟩) 32 32] 26)).cell? ⟨w7.heap.size, 1, none⟩ = some (.slice (some ⟨B2, 0, none⟩) 32 32) := by rw [World.cell?_alloc_new]; rfl
          have X0 := Lib.hid x0; have X1 := Lib.hid x1
          have HK8 := Lib.hid hal
          have HB8 := Lib.hid (HB7.out.later hal)
          have HROW8 := Lib.hid (HROW7.out.below hal); have HR8 := Lib.hid (HR2.out.below hal)
          clear x0 x1 hal
          go_wp2_with fail
          refine (HT.out _ (bstep H4.out HB8.out.below)).mono ?_
          rintro e w9 ⟨v9, rfl, a9, h9⟩
          have HK9 := Lib.hid h9
          have HB9 := Lib.hid (HB8.out.later h9)
          have HROW9 := Lib.hid (HROW8.out.below h9); have HR9 := Lib.hid (HR8.out.below h9)
          have X09 := Lib.hid (cell_keep h9 X0.out); have X19 := Lib.hid (cell_keep h9 X1.out)
          clear h9
          go_wp2_with fail
          refine (HRN.out _ _ a9).mono ?_
          rintro e w10 ⟨rfl, h10⟩
          rw [runRes_end HRT.out HAT.out]
          have HK10 := Lib.hid h10
          have HB10 := Lib.hid (HB9.out.later h10)
          have HROW10 := Lib.hid (HROW9.out.below h10); have HR10 := Lib.hid (HR9.out.below h10)
          have z0 := cell_keep h10 X09.out; have z1 := cell_keep h10 X19.out
          clear h10 a9
          have y0 := HB10.out.c0
          have y1 : w10.cell? ⟨g, 1, none⟩ = some (.slice (some ⟨B, 0, none⟩) 32 32) := cell_keep (bstep (bstep (bstep HK6.out HK7.out) HK8.out) (bstep HK9.out HK10.out)) s1
          clear s0 s1
          go_wp2_with fail
          refine (HSS.out _ _ _ _ _ _ H32.out HROW10.out HR10.out).mono ?_
          rintro e w11 ⟨rfl, h11⟩
          have HB11 := Lib.hid (HB10.out.later h11)
          have u0 := HB11.out.c0; have u1 := cell_keep h11 y1
          have HROW11 := Lib.hid (HROW10.out.below h11)
          have tx0 := HROW11.out.2 0 (by have := H32.out; omega)
          rw [HTX.out] at tx0
          clear h11 y0 y1 z0 z1
          go_wp2_with fail
          refine (awake3_any _).mono ?_
          rintro e w12 ⟨rfl, h12⟩
          go_wp2
          go_ret
          exact ⟨rfl, bstep H4.out (bstep HB11.out.below h12)⟩
        · have hn1 : ¬ (n : Int) < (K : Int) := by omega
          have hn2 : ¬ (s.at_ : Int) < (m : Int) := by omega
          clear hgo hex hat
          go_wp2_with fail
          refine (HT.out _ (bstep H4.out HB.out.below)).mono ?_
          rintro e w6 ⟨v6, rfl, a6, h6⟩
          have HK6 := Lib.hid h6
          have HB6 := Lib.hid (HB.out.later h6)
          have HROW6 := Lib.hid (HROW.out.below h6)
          clear h6
          go_wp2_with fail
          refine (HAS.out _ _ _ _ a6 HRT.out).mono ?_
          rintro e w7 h7
          unfold AftOut at h7
          rw [HRT.out] at h7
          obtain ⟨h7, B2, rfl, _, hrow2⟩ := h7
          have HK7 := Lib.hid h7
          have HB7 := Lib.hid (HB6.out.later h7)
          have HROW7 := Lib.hid (HROW6.out.below h7)
          have HR2 := Lib.hid (srow_all hrow2 H32.out)
          clear h7 hrow2 a6
          have hal := tou_alloc w7 (.cells #[.int .i64 (s.at_ : Int), .slice (some ⟨B2, 0, none⟩) 32 32] 26)
          have x0 : (w7.alloc (.cells #[.int .i64 (s.at_ : Int), .slice (some ⟨B2, 0, none⟩) 32 32] 26)).cell? ⟨w7.heap.size, 0, none⟩ = some (.int .i64 (s.at_ : Int)) := by rw [World.cell?_alloc_new]; rfl
          have x1 : (w7.alloc (.cells #[.int .i64 (s.at_ : Int), .slice (some ⟨B2, 0, none⟩) 32 32] 26)).cell? ⟨w7.heap.size, 1, none⟩ = some (.slice (some ⟨B2, 0, none⟩) 32 32) := by rw [World.cell?_alloc_new]; rfl
          have X0 := Lib.hid x0; have X1 := Lib.hid x1
          have HK8 := Lib.hid hal
          have HB8 := Lib.hid (HB7.out.later hal)
          have HROW8 := Lib.hid (HROW7.out.below hal); have HR8 := Lib.hid (HR2.out.below hal)
          clear x0 x1 hal
          go_wp2_with fail
          refine (HT.out _ (bstep H4.out HB8.out.below)).mono ?_
          rintro e w9 ⟨v9, rfl, a9, h9⟩
          have HK9 := Lib.hid h9
          have HB9 := Lib.hid (HB8.out.later h9)
          have HROW9 := Lib.hid (HROW8.out.below h9); have HR9 := Lib.hid (HR8.out.below h9)
          have X09 := Lib.hid (cell_keep h9 X0.out); have X19 := Lib.hid (cell_keep h9 X1.out)
          clear h9
          go_wp2_with fail
          refine (HRN.out _ _ a9).mono ?_
          rintro e w10 ⟨rfl, h10⟩
          rw [runRes_end HRT.out HAT.out]
          have HK10 := Lib.hid h10
          have HB10 := Lib.hid (HB9.out.later h10)
          have HROW10 := Lib.hid (HROW9.out.below h10); have HR10 := Lib.hid (HR9.out.below h10)
          have z0 := cell_keep h10 X09.out; have z1 := cell_keep h10 X19.out
          clear h10 a9
          have y0 := HB10.out.c0
          have y1 : w10.cell? ⟨g, 1, none⟩ = some (.slice (some ⟨B, 0, none⟩) 32 32) := cell_keep (bstep (bstep (bstep HK6.out HK7.out) HK8.out) (bstep HK9.out HK10.out)) s1
          clear s0 s1
          go_wp2_with fail
          refine (HSS.out _ _ _ _ _ _ H32.out HROW10.out HR10.out).mono ?_
          rintro e w11 ⟨rfl, h11⟩
          have HB11 := Lib.hid (HB10.out.later h11)
          have u0 := HB11.out.c0; have u1 := cell_keep h11 y1
          have HROW11 := Lib.hid (HROW10.out.below h11)
          have tx0 := HROW11.out.2 0 (by have := H32.out; omega)
          rw [HTX.out] at tx0
          clear h11 y0 y1 z0 z1
          go_wp2_with fail
          refine (awake3_any _).mono ?_
          rintro e w12 ⟨rfl, h12⟩
          go_wp2
          go_ret
          exact ⟨rfl, bstep H4.out (bstep HB11.out.below h12)⟩
      · have HAT : Hid (¬ s.at_ = ps.length) := Lib.hid (by rw [HM.out]; exact hat)
        have hn1 : ¬ (n : Int) < (K : Int) := by omega
        have hn2 : (s.at_ : Int) < (m : Int) := by omega
        clear hgo hex hat
        go_wp2_with fail
        refine (HT.out _ (bstep H4.out HB.out.below)).mono ?_
        rintro e w6 ⟨v6, rfl, a6, h6⟩
        have HK6 := Lib.hid h6
        have HB6 := Lib.hid (HB.out.later h6)
        have HROW6 := Lib.hid (HROW.out.below h6)
        clear h6
        go_wp2_with fail
        refine (HAS.out _ _ _ _ a6 HRT.out).mono ?_
        rintro e w7 h7
        unfold AftOut at h7
        rw [HRT.out] at h7
        obtain ⟨h7, B2, rfl, _, hrow2⟩ := h7
        have HK7 := Lib.hid h7
        have HB7 := Lib.hid (HB6.out.later h7)
        have HROW7 := Lib.hid (HROW6.out.below h7)
        have HR2 := Lib.hid (srow_all hrow2 H32.out)
        clear h7 hrow2 a6
        have hal := tou_alloc w7 (.cells #[.int .i64 (s.at_ : Int), .slice (some ⟨B2, 0, none⟩) 32 32] 26)
        have x0 : (w7.alloc (.cells #[.int .i64 (s.at_ : Int), .slice (some ⟨B2, 0, none⟩) 32 32] 26)).cell? ⟨w7.heap.size, 0, none⟩ = some (.int .i64 (s.at_ : Int)) := by rw [World.cell?_alloc_new]; rfl
        have x1 : (w7.alloc (.cells #[.int .i64 (s.at_ : Int), .slice (some ⟨B2, 0, none⟩) 32 32] 26)).cell? ⟨w7.heap.size, 1, none⟩ = some (.slice (some ⟨B2, 0, none⟩) 32 32) := by rw [World.cell?_alloc_new]; rfl
        have X0 := Lib.hid x0; have X1 := Lib.hid x1
        have HK8 := Lib.hid hal
        have HB8 := Lib.hid (HB7.out.later hal)
        have HROW8 := Lib.hid (HROW7.out.below hal); have HR8 := Lib.hid (HR2.out.below hal)
        clear x0 x1 hal
        go_wp2_with fail
        refine (HT.out _ (bstep H4.out HB8.out.below)).mono ?_
        rintro e w9 ⟨v9, rfl, a9, h9⟩
        have HK9 := Lib.hid h9
        have HB9 := Lib.hid (HB8.out.later h9)
        have HROW9 := Lib.hid (HROW8.out.below h9); have HR9 := Lib.hid (HR8.out.below h9)
        have X09 := Lib.hid (cell_keep h9 X0.out); have X19 := Lib.hid (cell_keep h9 X1.out)
        clear h9
        go_wp2_with fail
        refine (HRN.out _ _ a9).mono ?_
        rintro e w10 ⟨rfl, h10⟩
        rw [runRes_go HRT.out HAT.out]
        have HK10 := Lib.hid h10
        have HB10 := Lib.hid (HB9.out.later h10)
        have HROW10 := Lib.hid (HROW9.out.below h10); have HR10 := Lib.hid (HR9.out.below h10)
        have z0 := cell_keep h10 X09.out; have z1 := cell_keep h10 X19.out
        clear h10 a9
        have y0 := HB10.out.c0
        have y1 : w10.cell? ⟨g, 1, none⟩ = some (.slice (some ⟨B, 0, none⟩) 32 32) := cell_keep (bstep (bstep (bstep HK6.out HK7.out) HK8.out) (bstep HK9.out HK10.out)) s1
        clear s0 s1
        go_wp2_with fail
        refine (HSS.out _ _ _ _ _ _ H32.out HROW10.out HR10.out).mono ?_
        rintro e w11 ⟨rfl, h11⟩
        have HB11 := Lib.hid (HB10.out.later h11)
        have u0 := HB11.out.c0; have u1 := cell_keep h11 y1
        have HROW11 := Lib.hid (HROW10.out.below h11)
        clear h11 y0 y1 z0 z1
        go_wp2_with fail
        refine (awake3_any _).mono ?_
        rintro e w12 ⟨rfl, h12⟩
        go_wp2
        go_ret
        exact ⟨rfl, bstep H4.out (bstep HB11.out.below h12)⟩
theorem RunParts_any (w : World) (v : Value) (x : ByteArray) (k : Int) (ps : List Ins) (h : ArgP w v ps) (hl : ps.length ≤ 281474976710656) (hz : ∀ x ∈ ps, x.tree.length ≤ 281474976710656) (hx : x.size ≤ 281474976710656) :
    Calls Try.prog 4 #[v, .string x, .int .i64 k] w (AwkP w) := by
  by_cases hp : PValid ps
  · cases hv : vld x.data.toList with
    | false => exact rparts_tree w v x k ps h hp hx hv
    | true =>
      by_cases hk : k < 0 ∨ 300 < k
      · exact rparts_far w v x k ps h hp hv hk
      · obtain ⟨K, rfl⟩ : ∃ K : Nat, k = (K : Int) := ⟨k.toNat, by omega⟩
        exact rparts_main w v x K ps h hp hv (by omega)
  · exact rparts_form w v x k ps h hl hz hp
end Go.Proofs.Ytpiahjbpidcjpaa
