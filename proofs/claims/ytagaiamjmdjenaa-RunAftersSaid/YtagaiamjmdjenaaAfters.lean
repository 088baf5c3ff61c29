/- RunAfters: its walk. By an AI agent. -/
import Derived.Test.YtagaiamjmdjenaaRuns
import Derived.Test.YtagaiamjmdjenaaAft
import Derived.Test.YtagaiamjmdjenaaSameS
import Derived.Test.YtagaiamjmdjenaaRTextS
namespace Go.Proofs.Ytagaiamjmdjenaa
open Go.RowKit Pl

theorem StrRow.all {w : World} {B : Nat} {ls : List (List UInt8)} (h : StrRow w B 0 32 ls) (hl : ls.length = 32) : StrAt w B 0 ls := ⟨h.1, fun j hj => h.2 j (by omega)⟩
set_option maxHeartbeats 3200000 in
set_option maxRecDepth 100000 in
theorem afters_form (w : World) (v : Value) (x : ByteArray) (f : Int) (ps : List Ins) (h : ArgP w v ps) (hl : ps.length * 48 ≤ 140737488355328) (hz : ∀ x ∈ ps, x.tree.length ≤ 281474976710656) (hx : x.size ≤ 281474976710656) (hp : ¬ PValid ps) :
    Calls Try.prog 5 #[v, .string x, .int .i64 f] w (Awake3 w) := by
  have HT := Lib.hid (fun W v h => twin_any W v ps h (by omega))
  have HSAME := Lib.hid (fun W v v2 h h2 => PSame_arg W v v2 ps ps true h h2 (by omega) (by simp))
  have HA := Lib.hid h
  have HRUN := Lib.hid (fun W h => After_form W v ps x f h (by omega) hz hx (.inl hp))
  have HPV := Lib.hid (fun W h => PV_arg W v ps false h (by omega) hz (by simp [hp]))
  clear h hl hz hx hp
  go_enter Try.func5, Try.ntmps5
  go_wp2_with fail
  refine (HT.out _ _ HA.out).mono ?_
  rintro e w1 ⟨v1, rfl, a1, h1⟩
  have A1 := Lib.hid a1
  clear a1
  go_wp2_with fail
  refine (HRUN.out _ (HA.out.below h1)).mono ?_
  rintro e w2 ⟨rfl, c2⟩
  have ca : Below w2.heap.size w2 (w2.alloc (.cells #[.int .i64 0, .slice none 0 0] 26)) := (Below.refl _ _).alloc (Nat.le_refl _) _
  have b0 : (w2.alloc (.cells #[.int .i64 0, .slice none 0 0] 26)).cell? ⟨w2.heap.size, 0, none⟩ = some (.int .i64 0) := by rw [World.cell?_alloc_new]; rfl
  have b1 : (w2.alloc (.cells #[.int .i64 0, .slice none 0 0] 26)).cell? ⟨w2.heap.size, 1, none⟩ = some (.slice none 0 0) := by rw [World.cell?_alloc_new]; rfl
  have h2 := bstep (bstep h1 c2) ca
  have A2 := Lib.hid ((A1.out.below c2).below ca)
  clear c2 h1 ca A1
  go_wp2_with fail
  generalize (w2.alloc (.cells #[.int .i64 0, .slice none 0 0] 26)) = wa at *
  have B0 := Lib.hid b0; have B1 := Lib.hid b1
  clear b0 b1
  refine (HSAME.out _ _ _ (HA.out.below h2) A2.out).mono ?_
  rintro e w3 ⟨rfl, c3⟩
  have h3 := bstep h2 c3
  clear h2
  go_wp2_with fail
  refine (HPV.out _ (HA.out.below h3)).mono ?_
  rintro e w4 ⟨rfl, c4⟩
  have h4 := bstep h3 c4
  have k4 := bstep c3 c4
  clear c4 h3 c3
  have q0 := cell_keep k4 B0.out
  have q1 := cell_keep k4 B1.out
  go_wp2_with fail
  refine (none3_any _).mono ?_
  rintro e w8 ⟨rfl, c8⟩
  have h8 := bstep h4 c8
  clear q0 q1 c8
  go_wp2_with fail
  refine (awake3_any _).mono ?_
  rintro e w9 ⟨rfl, h9⟩
  go_wp2
  go_ret
  exact ⟨rfl, bstep h8 h9⟩
set_option maxHeartbeats 3200000 in
set_option maxRecDepth 100000 in
theorem afters_tree (w : World) (v : Value) (x : ByteArray) (f : Int) (ps : List Ins) (h : ArgP w v ps) (hl : ps.length * 48 ≤ 140737488355328) (hp : PValid ps) (hx : x.size ≤ 281474976710656) (hv : vld x.data.toList = false) :
    Calls Try.prog 5 #[v, .string x, .int .i64 f] w (Awake3 w) := by
  have HT := Lib.hid (fun W v h => twin_any W v ps h (by omega))
  have HSAME := Lib.hid (fun W v v2 h h2 => PSame_arg W v v2 ps ps true h h2 (by omega) (by simp))
  have HA := Lib.hid h
  have HRUN := Lib.hid (fun W h => After_form W v ps x f h (by omega) (fun x hx => by have := PV_tree_le hp hx; omega) hx (.inr hv))
  have HX := Lib.hid (fun W => rValid_eq false x W hx hv)
  have HPV := Lib.hid (fun W h => PV_arg W v ps true h (by omega) (fun x hx => by have := PV_tree_le hp hx; omega) (by simp [hp]))
  clear h hl hx hp hv
  go_enter Try.func5, Try.ntmps5
  go_wp2_with fail
  refine (HT.out _ _ HA.out).mono ?_
  rintro e w1 ⟨v1, rfl, a1, h1⟩
  have A1 := Lib.hid a1
  clear a1
  go_wp2_with fail
  refine (HRUN.out _ (HA.out.below h1)).mono ?_
  rintro e w2 ⟨rfl, c2⟩
  have ca : Below w2.heap.size w2 (w2.alloc (.cells #[.int .i64 0, .slice none 0 0] 26)) := (Below.refl _ _).alloc (Nat.le_refl _) _
  have b0 : (w2.alloc (.cells #[.int .i64 0, .slice none 0 0] 26)).cell? ⟨w2.heap.size, 0, none⟩ = some (.int .i64 0) := by rw [World.cell?_alloc_new]; rfl
  have b1 : (w2.alloc (.cells #[.int .i64 0, .slice none 0 0] 26)).cell? ⟨w2.heap.size, 1, none⟩ = some (.slice none 0 0) := by rw [World.cell?_alloc_new]; rfl
  have h2 := bstep (bstep h1 c2) ca
  have A2 := Lib.hid ((A1.out.below c2).below ca)
  clear c2 h1 ca A1
  go_wp2_with fail
  generalize (w2.alloc (.cells #[.int .i64 0, .slice none 0 0] 26)) = wa at *
  have B0 := Lib.hid b0; have B1 := Lib.hid b1
  clear b0 b1
  refine (HSAME.out _ _ _ (HA.out.below h2) A2.out).mono ?_
  rintro e w3 ⟨rfl, c3⟩
  have h3 := bstep h2 c3
  clear h2
  go_wp2_with fail
  refine (HPV.out _ (HA.out.below h3)).mono ?_
  rintro e w4 ⟨rfl, c4⟩
  have h4 := bstep h3 c4
  have k4 := bstep c3 c4
  clear c4 h3 c3
  go_wp2_with fail
  refine (HX.out _).mono ?_
  rintro e w5 ⟨rfl, rfl⟩
  have q0 := cell_keep k4 B0.out
  have q1 := cell_keep k4 B1.out
  go_wp2_with fail
  refine (none3_any _).mono ?_
  rintro e w8 ⟨rfl, c8⟩
  have h8 := bstep h4 c8
  clear q0 q1 c8
  go_wp2_with fail
  refine (awake3_any _).mono ?_
  rintro e w9 ⟨rfl, h9⟩
  go_wp2
  go_ret
  exact ⟨rfl, bstep h8 h9⟩
set_option maxHeartbeats 3200000 in
set_option maxRecDepth 100000 in
theorem afters_neg (w : World) (v : Value) (x : ByteArray) (f : Int) (ps : List Ins) (h : ArgP w v ps) (hl : ps.length * 48 ≤ 140737488355328) (hp : PValid ps) (hv : vld x.data.toList = true) (hf : f < 0) :
    Calls Try.prog 5 #[v, .string x, .int .i64 f] w (Awake3 w) := by
  have HT := Lib.hid (fun W v h => twin_any W v ps h (by omega))
  have HSAME := Lib.hid (fun W v v2 h h2 => PSame_arg W v v2 ps ps true h h2 (by omega) (by simp))
  have HA := Lib.hid h
  have HRUN := Lib.hid (fun W h => After_arg W v ps x f h hp hv (by omega))
  have HX := Lib.hid (fun W => rValid_eq true x W (by have := vld_size hv; omega) hv)
  have HPV := Lib.hid (fun W h => PV_arg W v ps true h (by omega) (fun x hx => by have := PV_tree_le hp hx; omega) (by simp [hp]))
  clear h hl hp hv
  go_enter Try.func5, Try.ntmps5
  go_wp2_with fail
  refine (HT.out _ _ HA.out).mono ?_
  rintro e w1 ⟨v1, rfl, a1, h1⟩
  have A1 := Lib.hid a1
  clear a1
  go_wp2_with fail
  refine (HRUN.out _ (HA.out.below h1)).mono ?_
  rintro e w2 ⟨rfl, c2⟩
  have ca : Below w2.heap.size w2 (w2.alloc (.cells #[.int .i64 0, .slice none 0 0] 26)) := (Below.refl _ _).alloc (Nat.le_refl _) _
  have b0 : (w2.alloc (.cells #[.int .i64 0, .slice none 0 0] 26)).cell? ⟨w2.heap.size, 0, none⟩ = some (.int .i64 0) := by rw [World.cell?_alloc_new]; rfl
  have b1 : (w2.alloc (.cells #[.int .i64 0, .slice none 0 0] 26)).cell? ⟨w2.heap.size, 1, none⟩ = some (.slice none 0 0) := by rw [World.cell?_alloc_new]; rfl
  have h2 := bstep (bstep h1 c2) ca
  have A2 := Lib.hid ((A1.out.below c2).below ca)
  clear c2 h1 ca A1
  go_wp2_with fail
  generalize (w2.alloc (.cells #[.int .i64 0, .slice none 0 0] 26)) = wa at *
  have B0 := Lib.hid b0; have B1 := Lib.hid b1
  clear b0 b1
  refine (HSAME.out _ _ _ (HA.out.below h2) A2.out).mono ?_
  rintro e w3 ⟨rfl, c3⟩
  have h3 := bstep h2 c3
  clear h2
  go_wp2_with fail
  refine (HPV.out _ (HA.out.below h3)).mono ?_
  rintro e w4 ⟨rfl, c4⟩
  have h4 := bstep h3 c4
  have k4 := bstep c3 c4
  clear c4 h3 c3
  go_wp2_with fail
  refine (HX.out _).mono ?_
  rintro e w5 ⟨rfl, rfl⟩
  have q0 := cell_keep k4 B0.out
  have q1 := cell_keep k4 B1.out
  go_wp2_with fail
  refine (none3_any _).mono ?_
  rintro e w8 ⟨rfl, c8⟩
  have h8 := bstep h4 c8
  clear q0 q1 c8
  go_wp2_with fail
  refine (awake3_any _).mono ?_
  rintro e w9 ⟨rfl, h9⟩
  go_wp2
  go_ret
  exact ⟨rfl, bstep h8 h9⟩
set_option maxHeartbeats 3200000 in
set_option maxRecDepth 100000 in
theorem afters_big (w : World) (v : Value) (x : ByteArray) (f : Int) (ps : List Ins) (h : ArgP w v ps) (hl : ps.length * 48 ≤ 140737488355328) (hp : PValid ps) (hv : vld x.data.toList = true) (hf : 10000000 < f) :
    Calls Try.prog 5 #[v, .string x, .int .i64 f] w (Awake3 w) := by
  have HT := Lib.hid (fun W v h => twin_any W v ps h (by omega))
  have HSAME := Lib.hid (fun W v v2 h h2 => PSame_arg W v v2 ps ps true h h2 (by omega) (by simp))
  have HA := Lib.hid h
  have HRUN := Lib.hid (fun W h => After_arg W v ps x f h hp hv (by omega))
  have HX := Lib.hid (fun W => rValid_eq true x W (by have := vld_size hv; omega) hv)
  have HPV := Lib.hid (fun W h => PV_arg W v ps true h (by omega) (fun x hx => by have := PV_tree_le hp hx; omega) (by simp [hp]))
  have hf' : ¬ f < 0 := by omega
  clear h hl hp hv
  go_enter Try.func5, Try.ntmps5
  go_wp2_with fail
  refine (HT.out _ _ HA.out).mono ?_
  rintro e w1 ⟨v1, rfl, a1, h1⟩
  have A1 := Lib.hid a1
  clear a1
  go_wp2_with fail
  refine (HRUN.out _ (HA.out.below h1)).mono ?_
  rintro e w2 ⟨rfl, c2⟩
  have ca : Below w2.heap.size w2 (w2.alloc (.cells #[.int .i64 0, .slice none 0 0] 26)) := (Below.refl _ _).alloc (Nat.le_refl _) _
  have b0 : (w2.alloc (.cells #[.int .i64 0, .slice none 0 0] 26)).cell? ⟨w2.heap.size, 0, none⟩ = some (.int .i64 0) := by rw [World.cell?_alloc_new]; rfl
  have b1 : (w2.alloc (.cells #[.int .i64 0, .slice none 0 0] 26)).cell? ⟨w2.heap.size, 1, none⟩ = some (.slice none 0 0) := by rw [World.cell?_alloc_new]; rfl
  have h2 := bstep (bstep h1 c2) ca
  have A2 := Lib.hid ((A1.out.below c2).below ca)
  clear c2 h1 ca A1
  go_wp2_with fail
  generalize (w2.alloc (.cells #[.int .i64 0, .slice none 0 0] 26)) = wa at *
  have B0 := Lib.hid b0; have B1 := Lib.hid b1
  clear b0 b1
  refine (HSAME.out _ _ _ (HA.out.below h2) A2.out).mono ?_
  rintro e w3 ⟨rfl, c3⟩
  have h3 := bstep h2 c3
  clear h2
  go_wp2_with fail
  refine (HPV.out _ (HA.out.below h3)).mono ?_
  rintro e w4 ⟨rfl, c4⟩
  have h4 := bstep h3 c4
  have k4 := bstep c3 c4
  clear c4 h3 c3
  go_wp2_with fail
  refine (HX.out _).mono ?_
  rintro e w5 ⟨rfl, rfl⟩
  have q0 := cell_keep k4 B0.out
  have q1 := cell_keep k4 B1.out
  go_wp2_with fail
  refine (none3_any _).mono ?_
  rintro e w8 ⟨rfl, c8⟩
  have h8 := bstep h4 c8
  clear q0 q1 c8
  go_wp2_with fail
  refine (awake3_any _).mono ?_
  rintro e w9 ⟨rfl, h9⟩
  go_wp2
  go_ret
  exact ⟨rfl, bstep h8 h9⟩
set_option maxHeartbeats 3200000 in
set_option maxRecDepth 100000 in
theorem afters_size (w : World) (v : Value) (x : ByteArray) (K : Nat) (ps : List Ins) (h : ArgP w v ps) (hl : ps.length * 48 ≤ 140737488355328) (hp : PValid ps) (hv : vld x.data.toList = true) (hk : K ≤ 10000000) (h1 : runTo ps K (first (rd x.data.toList)) = none) :
    Calls Try.prog 5 #[v, .string x, .int .i64 (K : Int)] w (Awake3 w) := by
  have HT := Lib.hid (fun W v h => twin_any W v ps h (by omega))
  have HSAME := Lib.hid (fun W v v2 h h2 => PSame_arg W v v2 ps ps true h h2 (by omega) (by simp))
  have HA := Lib.hid h
  have HRUN := Lib.hid (fun W h => After_none W v ps x K h hp hv hk h1)
  have HX := Lib.hid (fun W => rValid_eq true x W (by have := vld_size hv; omega) hv)
  have HLD := Lib.hid (fun W h => Load_any W v ps h hp)
  have HRD := Lib.hid (fun W => rRead_any x W hv)
  have HRR := Lib.hid (fun W m C y hL hC ho hn => rAfter_any W m C K v y ps (rd x.data.toList) hL hC ho hp hn (by rw [tx_rd hv]; exact (vld_iff.1 hv).1) hk)
  have k0 : ¬ (K : Int) < 0 := by omega
  have k1 : ¬ (10000000 : Int) < (K : Int) := by omega
  have HPV := Lib.hid (fun W h => PV_arg W v ps true h (by omega) (fun x hx => by have := PV_tree_le hp hx; omega) (by simp [hp]))
  have H1 := Lib.hid h1
  clear h1
  clear h hl hp hv hk
  go_enter Try.func5, Try.ntmps5
  go_wp2_with fail
  refine (HT.out _ _ HA.out).mono ?_
  rintro e w1 ⟨v1, rfl, a1, h1⟩
  have A1 := Lib.hid a1
  clear a1
  go_wp2_with fail
  refine (HRUN.out _ (HA.out.below h1)).mono ?_
  rintro e w2 ⟨c2, he2⟩
  rw [H1.out] at he2
  obtain rfl := he2
  have ca : Below w2.heap.size w2 (w2.alloc (.cells #[.int .i64 0, .slice none 0 0] 26)) := (Below.refl _ _).alloc (Nat.le_refl _) _
  have b0 : (w2.alloc (.cells #[.int .i64 0, .slice none 0 0] 26)).cell? ⟨w2.heap.size, 0, none⟩ = some (.int .i64 0) := by rw [World.cell?_alloc_new]; rfl
  have b1 : (w2.alloc (.cells #[.int .i64 0, .slice none 0 0] 26)).cell? ⟨w2.heap.size, 1, none⟩ = some (.slice none 0 0) := by rw [World.cell?_alloc_new]; rfl
  have h2 := bstep (bstep h1 c2) ca
  have A2 := Lib.hid ((A1.out.below c2).below ca)
  clear c2 h1 ca A1
  go_wp2_with fail
  generalize (w2.alloc (.cells #[.int .i64 0, .slice none 0 0] 26)) = wa at *
  have B0 := Lib.hid b0; have B1 := Lib.hid b1
  clear b0 b1
  refine (HSAME.out _ _ _ (HA.out.below h2) A2.out).mono ?_
  rintro e w3 ⟨rfl, c3⟩
  have h3 := bstep h2 c3
  clear h2
  go_wp2_with fail
  refine (HPV.out _ (HA.out.below h3)).mono ?_
  rintro e w4 ⟨rfl, c4⟩
  have h4 := bstep h3 c4
  have k4 := bstep c3 c4
  clear c4 h3 c3
  go_wp2_with fail
  refine (HX.out _).mono ?_
  rintro e w5 ⟨rfl, rfl⟩
  go_wp2_with fail
  refine (HLD.out _ (HA.out.below h4)).mono ?_
  rintro e w6 ⟨m, C, rfl, hL, c6⟩
  have h6 := bstep h4 c6
  have k6 := bstep k4 c6
  have HL := Lib.hid hL
  clear hL c6 h4 k4
  go_wp2_with fail
  refine (HRD.out _).mono ?_
  rintro e w7 ⟨y, rfl, hy, c7⟩
  have h7 := bstep h6 c7
  have k7 := bstep k6 c7
  have HL7 := Lib.hid (HL.out.below c7)
  obtain ⟨Y, rfl⟩ := hy.one
  have HY := Lib.hid hy
  clear hy c7 h6 k6
  go_wp2_with fail
  refine (HRR.out _ _ _ _ HL7.out HL7.out.tagC.lt (own_lt HL7.out.A) HY.out).mono ?_
  rintro e w8 ⟨c8, he⟩
  have h8 := bstep h7 c8
  have k8 := bstep k7 c8
  clear c8 h7 k7
  rw [H1.out] at he
  obtain ⟨v9, k9, rfl⟩ := he
  have q0 := cell_keep k8 B0.out
  have q1 := cell_keep k8 B1.out
  go_wp2_with fail
  refine (none3_any _).mono ?_
  rintro e w8 ⟨rfl, c8⟩
  have h8 := bstep h8 c8
  clear q0 q1 c8
  go_wp2_with fail
  refine (awake3_any _).mono ?_
  rintro e w9 ⟨rfl, h9⟩
  go_wp2
  go_ret
  exact ⟨rfl, bstep h8 h9⟩
set_option maxHeartbeats 3200000 in
set_option maxRecDepth 100000 in
theorem afters_ok (w : World) (v : Value) (x : ByteArray) (K : Nat) (ps : List Ins) (h : ArgP w v ps) (hl : ps.length * 48 ≤ 140737488355328) (hp : PValid ps) (hv : vld x.data.toList = true) (hk : K ≤ 10000000) {s : St} {n : Nat} (h1 : runTo ps K (first (rd x.data.toList)) = some (s, n)) :
    Calls Try.prog 5 #[v, .string x, .int .i64 (K : Int)] w (Awake3 w) := by
  have HT := Lib.hid (fun W v h => twin_any W v ps h (by omega))
  have HSAME := Lib.hid (fun W v v2 h h2 => PSame_arg W v v2 ps ps true h h2 (by omega) (by simp))
  have HA := Lib.hid h
  have HRUN := Lib.hid (fun W h => After_some W v ps x K n s h hp hv hk h1)
  have HX := Lib.hid (fun W => rValid_eq true x W (by have := vld_size hv; omega) hv)
  have HLD := Lib.hid (fun W h => Load_any W v ps h hp)
  have HRD := Lib.hid (fun W => rRead_any x W hv)
  have HRR := Lib.hid (fun W m C y hL hC ho hn => rAfter_any W m C K v y ps (rd x.data.toList) hL hC ho hp hn (by rw [tx_rd hv]; exact (vld_iff.1 hv).1) hk)
  have k0 : ¬ (K : Int) < 0 := by omega
  have k1 : ¬ (10000000 : Int) < (K : Int) := by omega
  have HPV := Lib.hid (fun W h => PV_arg W v ps true h (by omega) (fun x hx => by have := PV_tree_le hp hx; omega) (by simp [hp]))
  have H1 := Lib.hid h1
  have hok := (runTo_some h1).1.ok hp (first_ok _ (by rw [tx_rd hv]; exact (vld_iff.1 hv).1))
  have HOK := Lib.hid hok
  have h32 : (regTexts s).length = 32 := by simp [regTexts, hok.2.1]
  have HSS : Hid (∀ (W : World) (B cap B2 cap2 : Nat), StrAt W B 0 (regTexts s) → StrAt W B2 0 (regTexts s) → Calls Try.prog 15 #[.agg #[.int .i64 (s.at_ : Int), .slice (some ⟨B, 0, none⟩) 32 cap], .agg #[.int .i64 (s.at_ : Int), .slice (some ⟨B2, 0, none⟩) 32 cap2]] W fun e w' => e = .returned (.bool true) ∧ Below W.heap.size W w') := Lib.hid fun W B cap B2 cap2 g1 g2 => by
    have h := SameState_yes W (s.at_ : Int) B 0 cap B2 0 cap2 (regTexts s) g1 g2 (by omega)
    rw [h32] at h
    exact h
  have H32 := Lib.hid h32
  clear h1 hok h32
  clear h hl hp hv hk
  go_enter Try.func5, Try.ntmps5
  go_wp2_with fail
  refine (HT.out _ _ HA.out).mono ?_
  rintro e w1 ⟨v1, rfl, a1, h1⟩
  have A1 := Lib.hid a1
  clear a1
  go_wp2_with fail
  refine (HRUN.out _ (HA.out.below h1)).mono ?_
  rintro e w2 ⟨c2, he2⟩
  rw [H1.out] at he2
  obtain ⟨B, rfl, hBw, hrow⟩ := he2
  have ca : Below w2.heap.size w2 (w2.alloc (.cells #[.int .i64 (s.at_ : Int), .slice (some ⟨B, 0, none⟩) 32 32] 26)) := (Below.refl _ _).alloc (Nat.le_refl _) _
  have b0 : (w2.alloc (.cells #[.int .i64 (s.at_ : Int), .slice (some ⟨B, 0, none⟩) 32 32] 26)).cell? ⟨w2.heap.size, 0, none⟩ = some (.int .i64 (s.at_ : Int)) := by rw [World.cell?_alloc_new]; rfl
  have b1 : (w2.alloc (.cells #[.int .i64 (s.at_ : Int), .slice (some ⟨B, 0, none⟩) 32 32] 26)).cell? ⟨w2.heap.size, 1, none⟩ = some (.slice (some ⟨B, 0, none⟩) 32 32) := by rw [World.cell?_alloc_new]; rfl
  have h2 := bstep (bstep h1 c2) ca
  have A2 := Lib.hid ((A1.out.below c2).below ca)
  have HROW := Lib.hid ((hrow.all H32.out).below ca)
  clear hBw hrow
  clear c2 h1 ca A1
  go_wp2_with fail
  generalize (w2.alloc (.cells #[.int .i64 (s.at_ : Int), .slice (some ⟨B, 0, none⟩) 32 32] 26)) = wa at *
  have B0 := Lib.hid b0; have B1 := Lib.hid b1
  clear b0 b1
  refine (HSAME.out _ _ _ (HA.out.below h2) A2.out).mono ?_
  rintro e w3 ⟨rfl, c3⟩
  have h3 := bstep h2 c3
  clear h2
  go_wp2_with fail
  refine (HPV.out _ (HA.out.below h3)).mono ?_
  rintro e w4 ⟨rfl, c4⟩
  have h4 := bstep h3 c4
  have k4 := bstep c3 c4
  clear c4 h3 c3
  go_wp2_with fail
  refine (HX.out _).mono ?_
  rintro e w5 ⟨rfl, rfl⟩
  go_wp2_with fail
  refine (HLD.out _ (HA.out.below h4)).mono ?_
  rintro e w6 ⟨m, C, rfl, hL, c6⟩
  have h6 := bstep h4 c6
  have k6 := bstep k4 c6
  have HL := Lib.hid hL
  clear hL c6 h4 k4
  go_wp2_with fail
  refine (HRD.out _).mono ?_
  rintro e w7 ⟨y, rfl, hy, c7⟩
  have h7 := bstep h6 c7
  have k7 := bstep k6 c7
  have HL7 := Lib.hid (HL.out.below c7)
  obtain ⟨Y, rfl⟩ := hy.one
  have HY := Lib.hid hy
  clear hy c7 h6 k6
  go_wp2_with fail
  refine (HRR.out _ _ _ _ HL7.out HL7.out.tagC.lt (own_lt HL7.out.A) HY.out).mono ?_
  rintro e w8 ⟨c8, he⟩
  have h8 := bstep h7 c8
  have k8 := bstep k7 c8
  clear c8 h7 k7
  rw [H1.out] at he
  obtain ⟨S0, R0, rfl, hM⟩ := he
  have HTS := Lib.hid (fun W (hb : Below w8.heap.size w8 W) => rTextS_any W S0 R0 _ s (hM.below hb).place (hM.below hb).regsv (hM.below hb).regs HOK.out)
  have q0 := cell_keep k8 B0.out
  have q1 := cell_keep k8 B1.out
  have Q0 := Lib.hid q0; have Q1 := Lib.hid q1
  have HROW8 := Lib.hid (HROW.out.below k8)
  clear hM k8
  go_wp2_with fail
  go_region_held3 (fun w' => w'.cell? ⟨w2.heap.size, 0, none⟩ = some (.int .i64 (s.at_ : Int)) ∧ w'.cell? ⟨w2.heap.size, 1, none⟩ = some (.slice (some ⟨B, 0, none⟩) 32 32)) (first | exact ⟨Q0.out, Q1.out⟩ | exact ⟨i0, i1⟩ | exact ⟨j0, j1⟩ | exact ⟨l0, l1⟩ | go_keep)
    (first
      | (go_simp; go_at_call 20; refine (HTS.out _ (by first | exact Below.refl _ _ | exact (Below.refl _ _).drew)).mono ?_; rintro e w9 ⟨B9, cap9, rfl, hs9, c9⟩; have i0 := cell_keep c9 Q0.out; have i1 := cell_keep c9 Q1.out)
      | (go_simp; go_at_call 15; refine (HSS.out _ _ _ _ _ (StrAt.below (w := w8.drew) HROW8.out c9) hs9).mono ?_; rintro e w10 ⟨rfl, c10⟩; have j0 := cell_keep c10 i0; have j1 := cell_keep c10 i1)
      | (go_simp; go_at_call 18; refine (awake3_any _).mono ?_; rintro e w11 ⟨rfl, c11⟩; have l0 := cell_keep c11 j0; have l1 := cell_keep c11 j1))
  have h9 := bstep h8.drew c9
  have h10 := bstep h9 c10
  have h11 := bstep h10 c11
  clear h8 h9 h10 c9 c10 c11 q0 q1 hs9 i0 i1 j0 j1 l0 l1
  go_wp2
  go_ret
  exact ⟨rfl, h11⟩
theorem RunAfters_any (w : World) (v : Value) (x : ByteArray) (f : Int) (ps : List Ins) (h : ArgP w v ps) (hl : ps.length * 48 ≤ 140737488355328) (hz : ∀ x ∈ ps, x.tree.length ≤ 281474976710656) (hx : x.size ≤ 281474976710656) :
    Calls Try.prog 5 #[v, .string x, .int .i64 f] w fun e w' => e = .returned (.bool true) ∧ Below w.heap.size w w' := by
  by_cases hp : PValid ps
  · cases hv : vld x.data.toList with
    | false => exact afters_tree w v x f ps h hl hp hx hv
    | true =>
      by_cases hf : f < 0
      · exact afters_neg w v x f ps h hl hp hv hf
      · by_cases hf2 : 10000000 < f
        · exact afters_big w v x f ps h hl hp hv hf2
        · obtain ⟨K, rfl⟩ : ∃ K : Nat, f = (K : Int) := ⟨f.toNat, by omega⟩
          cases h1 : runTo ps K (first (rd x.data.toList)) with
          | none => exact afters_size w v x K ps h hl hp hv (by omega) h1
          | some r => exact afters_ok w v x K ps h hl hp hv (by omega) (s := r.1) (n := r.2) h1
  · exact afters_form w v x f ps h hl hz hx hp
end Go.Proofs.Ytagaiamjmdjenaa
