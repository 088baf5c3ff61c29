/- RunMore: its walk. By an AI agent. -/
import Derived.Test.YtagaiamjmdjenaaAwk
namespace Go.Proofs.Ytagaiamjmdjenaa
open Go.RowKit Pl

theorem res_none {ps : List Ins} {K : Nat} {t : Tr} (h : runTo ps K (first t) = none) : runRes ps K t = .tuple #[.string (S []), .int .i64 0, .int .i64 3] := by unfold runRes; rw [h]
theorem res_fuel {ps : List Ins} {K n : Nat} {t : Tr} {s : St} (h : runTo ps K (first t) = some (s, n)) (he : s.at_ ≠ ps.length) : runRes ps K t = .tuple #[.string (S []), .int .i64 0, .int .i64 7] := by
  unfold runRes; rw [h]; exact if_neg he
theorem res_ok {ps : List Ins} {K n : Nat} {t : Tr} {s : St} (h : runTo ps K (first t) = some (s, n)) (he : s.at_ = ps.length) : runRes ps K t = .tuple #[.string (S (tx (s.reg 0))), .int .i64 (n : Int), .int .i64 0] := by
  unfold runRes; rw [h]; exact if_pos he
theorem none_more {ps : List Ins} : ∀ {K : Nat} {s : St} (L : Nat), runTo ps K s = none → runTo ps (K + L) s = none := by
  intro K
  induction K with
  | zero => intro s L h; simp [runTo] at h
  | succ K ih =>
    intro s L h
    rw [show K + 1 + L = (K + L) + 1 by omega]
    rw [runTo] at h ⊢
    by_cases he : s.at_ = ps.length
    · rw [if_pos he] at h; cases h
    · rw [if_neg he] at h ⊢
      cases hs : stepP ps s with
      | none => rfl
      | some t =>
        rw [hs] at h
        simp only [Option.bind_some, Option.map_eq_none_iff] at h ⊢
        exact ih L h
theorem ok_more {ps : List Ins} {K n : Nat} {s0 s : St} (h : runTo ps K s0 = some (s, n)) (he : s.at_ = ps.length) {K' : Nat} (hK : n ≤ K') : runTo ps K' s0 = some (s, n) :=
  runTo_is (runTo_some h).1 hK (.inr he)
theorem ok_less {ps : List Ins} {K n : Nat} {s0 s : St} (h : runTo ps K s0 = some (s, n + 1)) : ∃ s', runTo ps n s0 = some (s', n) ∧ s'.at_ ≠ ps.length := by
  have h1 := (runTo_some h).1
  cases h1 with
  | succ h2 h3 _ => exact ⟨_, runTo_is h2 (Nat.le_refl _) (.inl rfl), h3⟩
theorem fuel_more {ps : List Ins} {K L n n2 : Nat} {s0 s s2 : St} (h : runTo ps K s0 = some (s, n)) (he : s.at_ ≠ ps.length) (h2 : runTo ps L s0 = some (s2, n2)) (he2 : s2.at_ = ps.length) : K < n2 := by
  rcases Nat.lt_or_ge K n2 with h3 | h3
  · exact h3
  · have := ok_more h2 he2 h3
    rw [h] at this
    cases this
    exact absurd he2 he

def Awake3 (w : World) (e : Ending) (w' : World) : Prop := e = .returned (.bool true) ∧ Below w.heap.size w w'
--WALKS
set_option maxHeartbeats 3200000 in
set_option maxRecDepth 100000 in
theorem more_form (w : World) (v : Value) (x : ByteArray) (f m : Int) (ps : List Ins) (h : ArgP w v ps) (hl : ps.length ≤ 281474976710656) (hz : ∀ x ∈ ps, x.tree.length ≤ 281474976710656) (hp : ¬ PValid ps) :
    Calls Try.prog 7 #[v, .string x, .int .i64 f, .int .i64 m] w (Awake3 w) := by
  have H := Lib.hid (PV_arg w v ps false h hl hz (by simp [hp]))
  clear h hl hz hp
  go_enter Try.func7, Try.ntmps7
  go_wp2_with fail
  refine H.out.mono ?_
  rintro e w1 ⟨rfl, h1⟩
  go_wp2_with fail
  refine (awake3_any _).mono ?_
  rintro e w9 ⟨rfl, h9⟩
  go_wp2
  go_ret
  exact ⟨rfl, bstep h1 h9⟩
set_option maxHeartbeats 3200000 in
set_option maxRecDepth 100000 in
theorem more_tree (w : World) (v : Value) (x : ByteArray) (f m : Int) (ps : List Ins) (h : ArgP w v ps) (hp : PValid ps) (hx : x.size ≤ 281474976710656) (hv : vld x.data.toList = false) :
    Calls Try.prog 7 #[v, .string x, .int .i64 f, .int .i64 m] w (Awake3 w) := by
  have H := Lib.hid (PV_arg w v ps true h (by have := hp.1; omega) (fun x hx => by have := PV_tree_le hp hx; omega) (by simp [hp]))
  have HX := Lib.hid (fun W => rValid_eq false x W hx hv)
  clear h hp hx hv
  go_enter Try.func7, Try.ntmps7
  go_wp2_with fail
  refine H.out.mono ?_
  rintro e w1 ⟨rfl, h1⟩
  go_wp2_with fail
  refine (HX.out _).mono ?_
  rintro e w2 ⟨rfl, rfl⟩
  go_wp2_with fail
  refine (awake3_any _).mono ?_
  rintro e w9 ⟨rfl, h9⟩
  go_wp2
  go_ret
  exact ⟨rfl, bstep h1 h9⟩
set_option maxHeartbeats 3200000 in
set_option maxRecDepth 100000 in
theorem more_neg (w : World) (v : Value) (x : ByteArray) (f m : Int) (ps : List Ins) (h : ArgP w v ps) (hp : PValid ps) (hv : vld x.data.toList = true) (hf : f < 0) :
    Calls Try.prog 7 #[v, .string x, .int .i64 f, .int .i64 m] w (Awake3 w) := by
  have H := Lib.hid (PV_arg w v ps true h (by have := hp.1; omega) (fun x hx => by have := PV_tree_le hp hx; omega) (by simp [hp]))
  have HX := Lib.hid (fun W => rValid_eq true x W (by have := vld_size hv; omega) hv)
  clear h hp hv
  go_enter Try.func7, Try.ntmps7
  go_wp2_with fail
  refine H.out.mono ?_
  rintro e w1 ⟨rfl, h1⟩
  go_wp2_with fail
  refine (HX.out _).mono ?_
  rintro e w2 ⟨rfl, rfl⟩
  go_wp2_with fail
  refine (awake3_any _).mono ?_
  rintro e w9 ⟨rfl, h9⟩
  go_wp2
  go_ret
  exact ⟨rfl, bstep h1 h9⟩
set_option maxHeartbeats 3200000 in
set_option maxRecDepth 100000 in
theorem more_neg2 (w : World) (v : Value) (x : ByteArray) (f m : Int) (ps : List Ins) (h : ArgP w v ps) (hp : PValid ps) (hv : vld x.data.toList = true) (hf : 0 ≤ f) (hm : m < 0) :
    Calls Try.prog 7 #[v, .string x, .int .i64 f, .int .i64 m] w (Awake3 w) := by
  have H := Lib.hid (PV_arg w v ps true h (by have := hp.1; omega) (fun x hx => by have := PV_tree_le hp hx; omega) (by simp [hp]))
  have HX := Lib.hid (fun W => rValid_eq true x W (by have := vld_size hv; omega) hv)
  have hf' : ¬ f < 0 := by omega
  clear h hp hv
  go_enter Try.func7, Try.ntmps7
  go_wp2_with fail
  refine H.out.mono ?_
  rintro e w1 ⟨rfl, h1⟩
  go_wp2_with fail
  refine (HX.out _).mono ?_
  rintro e w2 ⟨rfl, rfl⟩
  go_wp2_with fail
  refine (awake3_any _).mono ?_
  rintro e w9 ⟨rfl, h9⟩
  go_wp2
  go_ret
  exact ⟨rfl, bstep h1 h9⟩
set_option maxHeartbeats 3200000 in
set_option maxRecDepth 100000 in
theorem more_big (w : World) (v : Value) (x : ByteArray) (f m : Int) (ps : List Ins) (h : ArgP w v ps) (hp : PValid ps) (hv : vld x.data.toList = true) (hf : 10000000 < f) (hm : 0 ≤ m) :
    Calls Try.prog 7 #[v, .string x, .int .i64 f, .int .i64 m] w (Awake3 w) := by
  have H := Lib.hid (PV_arg w v ps true h (by have := hp.1; omega) (fun x hx => by have := PV_tree_le hp hx; omega) (by simp [hp]))
  have HX := Lib.hid (fun W => rValid_eq true x W (by have := vld_size hv; omega) hv)
  have hf' : ¬ f < 0 := by omega
  have hm' : ¬ m < 0 := by omega
  clear h hp hv
  go_enter Try.func7, Try.ntmps7
  go_wp2_with fail
  refine H.out.mono ?_
  rintro e w1 ⟨rfl, h1⟩
  go_wp2_with fail
  refine (HX.out _).mono ?_
  rintro e w2 ⟨rfl, rfl⟩
  go_wp2_with fail
  refine (awake3_any _).mono ?_
  rintro e w9 ⟨rfl, h9⟩
  go_wp2
  go_ret
  exact ⟨rfl, bstep h1 h9⟩
set_option maxHeartbeats 3200000 in
set_option maxRecDepth 100000 in
theorem more_big2 (w : World) (v : Value) (x : ByteArray) (f m : Int) (ps : List Ins) (h : ArgP w v ps) (hp : PValid ps) (hv : vld x.data.toList = true) (hf : 0 ≤ f) (hf2 : f ≤ 10000000) (hm : 0 ≤ m) (hm2 : 10000000 - f < m) :
    Calls Try.prog 7 #[v, .string x, .int .i64 f, .int .i64 m] w (Awake3 w) := by
  have H := Lib.hid (PV_arg w v ps true h (by have := hp.1; omega) (fun x hx => by have := PV_tree_le hp hx; omega) (by simp [hp]))
  have HX := Lib.hid (fun W => rValid_eq true x W (by have := vld_size hv; omega) hv)
  have hf' : ¬ f < 0 := by omega
  have hm' : ¬ m < 0 := by omega
  have hf3 : ¬ 10000000 < f := by omega
  clear h hp hv
  go_enter Try.func7, Try.ntmps7
  go_wp2_with fail
  refine H.out.mono ?_
  rintro e w1 ⟨rfl, h1⟩
  go_wp2_with fail
  refine (HX.out _).mono ?_
  rintro e w2 ⟨rfl, rfl⟩
  go_wp2_with fail
  refine (awake3_any _).mono ?_
  rintro e w9 ⟨rfl, h9⟩
  go_wp2
  go_ret
  exact ⟨rfl, bstep h1 h9⟩
set_option maxHeartbeats 3200000 in
set_option maxRecDepth 100000 in
theorem more_size (w : World) (v : Value) (x : ByteArray) (K L : Nat) (ps : List Ins) (h : ArgP w v ps) (hp : PValid ps) (hv : vld x.data.toList = true) (hk : K + L ≤ 10000000) (h1 : runTo ps K (first (rd x.data.toList)) = none) :
    Calls Try.prog 7 #[v, .string x, .int .i64 (K : Int), .int .i64 (L : Int)] w (Awake3 w) := by
  have H := Lib.hid (PV_arg w v ps true h (by have := hp.1; omega) (fun x hx => by have := PV_tree_le hp hx; omega) (by simp [hp]))
  have HX := Lib.hid (fun W => rValid_eq true x W (by have := vld_size hv; omega) hv)
  have HT := Lib.hid (fun W v h => twin_any W v ps h (by have := hp.1; omega))
  have HR1 := Lib.hid (fun W v h => Run_yes W v ps x K h hp hv (by omega))
  have HR2 := Lib.hid (fun W v h => Run_yes W v ps x (K + L) h hp hv (by omega))
  have HA := Lib.hid h
  have k0 : ¬ (K : Int) < 0 := by omega
  have l0 : ¬ (L : Int) < 0 := by omega
  have k1 : ¬ (10000000 : Int) < (K : Int) := by omega
  have k2 : (K : Int) ≤ 10000000 := by omega
  have kl : ¬ (10000000 - (K : Int)) < (L : Int) := by omega
  have kl2 : (K : Int) + (L : Int) ≤ 10000000 := by omega
  rw [res_none h1] at HR1
  rw [res_none (none_more L h1)] at HR2
  clear h1
  clear h hp hv hk
  go_enter Try.func7, Try.ntmps7
  go_wp2_with fail
  refine H.out.mono ?_
  rintro e w1 ⟨rfl, h1⟩
  go_wp2_with fail
  refine (HX.out _).mono ?_
  rintro e w2 ⟨rfl, rfl⟩
  go_wp2_with fail
  refine (HT.out _ _ (HA.out.below h1)).mono ?_
  rintro e t1 ⟨v1, rfl, a1, b1⟩
  have AA := Lib.hid a1
  have bb1 := bstep h1 b1
  clear a1 b1
  go_wp2_with fail
  refine (HR1.out _ _ AA.out).mono ?_
  rintro e r1 ⟨rfl, c1⟩
  have cc1 := bstep bb1 c1
  clear c1 AA bb1
  go_wp2_with fail
  refine (HT.out _ _ (HA.out.below cc1)).mono ?_
  rintro e t2 ⟨v2, rfl, a2, b2⟩
  have AA := Lib.hid a2
  have bb2 := bstep cc1 b2
  clear a2 b2
  go_wp2_with fail
  refine (HR2.out _ _ AA.out).mono ?_
  rintro e r2 ⟨rfl, c2⟩
  have cc2 := bstep bb2 c2
  clear c2 AA bb2
  go_wp2_with fail
  refine (awake3_any _).mono ?_
  rintro e w9 ⟨rfl, h9⟩
  go_wp2
  go_ret
  exact ⟨rfl, bstep cc2 h9⟩
set_option maxHeartbeats 3200000 in
set_option maxRecDepth 100000 in
theorem more_fuel1 (w : World) (v : Value) (x : ByteArray) (K L : Nat) (ps : List Ins) (h : ArgP w v ps) (hp : PValid ps) (hv : vld x.data.toList = true) (hk : K + L ≤ 10000000) {s : St} {n : Nat} (h1 : runTo ps K (first (rd x.data.toList)) = some (s, n)) (he : s.at_ ≠ ps.length) (h2 : runTo ps (K + L) (first (rd x.data.toList)) = none) :
    Calls Try.prog 7 #[v, .string x, .int .i64 (K : Int), .int .i64 (L : Int)] w (Awake3 w) := by
  have H := Lib.hid (PV_arg w v ps true h (by have := hp.1; omega) (fun x hx => by have := PV_tree_le hp hx; omega) (by simp [hp]))
  have HX := Lib.hid (fun W => rValid_eq true x W (by have := vld_size hv; omega) hv)
  have HT := Lib.hid (fun W v h => twin_any W v ps h (by have := hp.1; omega))
  have HR1 := Lib.hid (fun W v h => Run_yes W v ps x K h hp hv (by omega))
  have HR2 := Lib.hid (fun W v h => Run_yes W v ps x (K + L) h hp hv (by omega))
  have HA := Lib.hid h
  have k0 : ¬ (K : Int) < 0 := by omega
  have l0 : ¬ (L : Int) < 0 := by omega
  have k1 : ¬ (10000000 : Int) < (K : Int) := by omega
  have k2 : (K : Int) ≤ 10000000 := by omega
  have kl : ¬ (10000000 - (K : Int)) < (L : Int) := by omega
  have kl2 : (K : Int) + (L : Int) ≤ 10000000 := by omega
  rw [res_fuel h1 he] at HR1
  rw [res_none h2] at HR2
  clear h1 h2 he
  clear h hp hv hk
  go_enter Try.func7, Try.ntmps7
  go_wp2_with fail
  refine H.out.mono ?_
  rintro e w1 ⟨rfl, h1⟩
  go_wp2_with fail
  refine (HX.out _).mono ?_
  rintro e w2 ⟨rfl, rfl⟩
  go_wp2_with fail
  refine (HT.out _ _ (HA.out.below h1)).mono ?_
  rintro e t1 ⟨v1, rfl, a1, b1⟩
  have AA := Lib.hid a1
  have bb1 := bstep h1 b1
  clear a1 b1
  go_wp2_with fail
  refine (HR1.out _ _ AA.out).mono ?_
  rintro e r1 ⟨rfl, c1⟩
  have cc1 := bstep bb1 c1
  clear c1 AA bb1
  go_wp2_with fail
  refine (HT.out _ _ (HA.out.below cc1)).mono ?_
  rintro e t2 ⟨v2, rfl, a2, b2⟩
  have AA := Lib.hid a2
  have bb2 := bstep cc1 b2
  clear a2 b2
  go_wp2_with fail
  refine (HR2.out _ _ AA.out).mono ?_
  rintro e r2 ⟨rfl, c2⟩
  have cc2 := bstep bb2 c2
  clear c2 AA bb2
  go_wp2_with fail
  refine (awake3_any _).mono ?_
  rintro e w9 ⟨rfl, h9⟩
  go_wp2
  go_ret
  exact ⟨rfl, bstep cc2 h9⟩
set_option maxHeartbeats 3200000 in
set_option maxRecDepth 100000 in
theorem more_fuel2 (w : World) (v : Value) (x : ByteArray) (K L : Nat) (ps : List Ins) (h : ArgP w v ps) (hp : PValid ps) (hv : vld x.data.toList = true) (hk : K + L ≤ 10000000) {s s2 : St} {n n2 : Nat} (h1 : runTo ps K (first (rd x.data.toList)) = some (s, n)) (he : s.at_ ≠ ps.length) (h2 : runTo ps (K + L) (first (rd x.data.toList)) = some (s2, n2)) (he2 : s2.at_ ≠ ps.length) :
    Calls Try.prog 7 #[v, .string x, .int .i64 (K : Int), .int .i64 (L : Int)] w (Awake3 w) := by
  have H := Lib.hid (PV_arg w v ps true h (by have := hp.1; omega) (fun x hx => by have := PV_tree_le hp hx; omega) (by simp [hp]))
  have HX := Lib.hid (fun W => rValid_eq true x W (by have := vld_size hv; omega) hv)
  have HT := Lib.hid (fun W v h => twin_any W v ps h (by have := hp.1; omega))
  have HR1 := Lib.hid (fun W v h => Run_yes W v ps x K h hp hv (by omega))
  have HR2 := Lib.hid (fun W v h => Run_yes W v ps x (K + L) h hp hv (by omega))
  have HA := Lib.hid h
  have k0 : ¬ (K : Int) < 0 := by omega
  have l0 : ¬ (L : Int) < 0 := by omega
  have k1 : ¬ (10000000 : Int) < (K : Int) := by omega
  have k2 : (K : Int) ≤ 10000000 := by omega
  have kl : ¬ (10000000 - (K : Int)) < (L : Int) := by omega
  have kl2 : (K : Int) + (L : Int) ≤ 10000000 := by omega
  rw [res_fuel h1 he] at HR1
  rw [res_fuel h2 he2] at HR2
  clear h1 h2 he he2
  clear h hp hv hk
  go_enter Try.func7, Try.ntmps7
  go_wp2_with fail
  refine H.out.mono ?_
  rintro e w1 ⟨rfl, h1⟩
  go_wp2_with fail
  refine (HX.out _).mono ?_
  rintro e w2 ⟨rfl, rfl⟩
  go_wp2_with fail
  refine (HT.out _ _ (HA.out.below h1)).mono ?_
  rintro e t1 ⟨v1, rfl, a1, b1⟩
  have AA := Lib.hid a1
  have bb1 := bstep h1 b1
  clear a1 b1
  go_wp2_with fail
  refine (HR1.out _ _ AA.out).mono ?_
  rintro e r1 ⟨rfl, c1⟩
  have cc1 := bstep bb1 c1
  clear c1 AA bb1
  go_wp2_with fail
  refine (HT.out _ _ (HA.out.below cc1)).mono ?_
  rintro e t2 ⟨v2, rfl, a2, b2⟩
  have AA := Lib.hid a2
  have bb2 := bstep cc1 b2
  clear a2 b2
  go_wp2_with fail
  refine (HR2.out _ _ AA.out).mono ?_
  rintro e r2 ⟨rfl, c2⟩
  have cc2 := bstep bb2 c2
  clear c2 AA bb2
  go_wp2_with fail
  refine (awake3_any _).mono ?_
  rintro e w9 ⟨rfl, h9⟩
  go_wp2
  go_ret
  exact ⟨rfl, bstep cc2 h9⟩
set_option maxHeartbeats 3200000 in
set_option maxRecDepth 100000 in
theorem more_fuel3 (w : World) (v : Value) (x : ByteArray) (K L : Nat) (ps : List Ins) (h : ArgP w v ps) (hp : PValid ps) (hv : vld x.data.toList = true) (hk : K + L ≤ 10000000) {s s2 : St} {n n2 : Nat} (h1 : runTo ps K (first (rd x.data.toList)) = some (s, n)) (he : s.at_ ≠ ps.length) (h2 : runTo ps (K + L) (first (rd x.data.toList)) = some (s2, n2)) (he2 : s2.at_ = ps.length) :
    Calls Try.prog 7 #[v, .string x, .int .i64 (K : Int), .int .i64 (L : Int)] w (Awake3 w) := by
  have H := Lib.hid (PV_arg w v ps true h (by have := hp.1; omega) (fun x hx => by have := PV_tree_le hp hx; omega) (by simp [hp]))
  have HX := Lib.hid (fun W => rValid_eq true x W (by have := vld_size hv; omega) hv)
  have HT := Lib.hid (fun W v h => twin_any W v ps h (by have := hp.1; omega))
  have HR1 := Lib.hid (fun W v h => Run_yes W v ps x K h hp hv (by omega))
  have HR2 := Lib.hid (fun W v h => Run_yes W v ps x (K + L) h hp hv (by omega))
  have HA := Lib.hid h
  have k0 : ¬ (K : Int) < 0 := by omega
  have l0 : ¬ (L : Int) < 0 := by omega
  have k1 : ¬ (10000000 : Int) < (K : Int) := by omega
  have k2 : (K : Int) ≤ 10000000 := by omega
  have kl : ¬ (10000000 - (K : Int)) < (L : Int) := by omega
  have kl2 : (K : Int) + (L : Int) ≤ 10000000 := by omega
  have hKn : (K : Int) < (n2 : Int) := by have := fuel_more h1 he h2 he2; omega
  rw [res_fuel h1 he] at HR1
  rw [res_ok h2 he2] at HR2
  clear h1 h2 he he2
  clear h hp hv hk
  go_enter Try.func7, Try.ntmps7
  go_wp2_with fail
  refine H.out.mono ?_
  rintro e w1 ⟨rfl, h1⟩
  go_wp2_with fail
  refine (HX.out _).mono ?_
  rintro e w2 ⟨rfl, rfl⟩
  go_wp2_with fail
  refine (HT.out _ _ (HA.out.below h1)).mono ?_
  rintro e t1 ⟨v1, rfl, a1, b1⟩
  have AA := Lib.hid a1
  have bb1 := bstep h1 b1
  clear a1 b1
  go_wp2_with fail
  refine (HR1.out _ _ AA.out).mono ?_
  rintro e r1 ⟨rfl, c1⟩
  have cc1 := bstep bb1 c1
  clear c1 AA bb1
  go_wp2_with fail
  refine (HT.out _ _ (HA.out.below cc1)).mono ?_
  rintro e t2 ⟨v2, rfl, a2, b2⟩
  have AA := Lib.hid a2
  have bb2 := bstep cc1 b2
  clear a2 b2
  go_wp2_with fail
  refine (HR2.out _ _ AA.out).mono ?_
  rintro e r2 ⟨rfl, c2⟩
  have cc2 := bstep bb2 c2
  clear c2 AA bb2
  go_wp2_with fail
  refine (awake3_any _).mono ?_
  rintro e w9 ⟨rfl, h9⟩
  go_wp2
  go_ret
  exact ⟨rfl, bstep cc2 h9⟩
set_option maxHeartbeats 3200000 in
set_option maxRecDepth 100000 in
theorem more_ok0 (w : World) (v : Value) (x : ByteArray) (K L : Nat) (ps : List Ins) (h : ArgP w v ps) (hp : PValid ps) (hv : vld x.data.toList = true) (hk : K + L ≤ 10000000) {s : St} (h1 : runTo ps K (first (rd x.data.toList)) = some (s, 0)) (he : s.at_ = ps.length) :
    Calls Try.prog 7 #[v, .string x, .int .i64 (K : Int), .int .i64 (L : Int)] w (Awake3 w) := by
  have H := Lib.hid (PV_arg w v ps true h (by have := hp.1; omega) (fun x hx => by have := PV_tree_le hp hx; omega) (by simp [hp]))
  have HX := Lib.hid (fun W => rValid_eq true x W (by have := vld_size hv; omega) hv)
  have HT := Lib.hid (fun W v h => twin_any W v ps h (by have := hp.1; omega))
  have HR1 := Lib.hid (fun W v h => Run_yes W v ps x K h hp hv (by omega))
  have HR2 := Lib.hid (fun W v h => Run_yes W v ps x (K + L) h hp hv (by omega))
  have HA := Lib.hid h
  have k0 : ¬ (K : Int) < 0 := by omega
  have l0 : ¬ (L : Int) < 0 := by omega
  have k1 : ¬ (10000000 : Int) < (K : Int) := by omega
  have k2 : (K : Int) ≤ 10000000 := by omega
  have kl : ¬ (10000000 - (K : Int)) < (L : Int) := by omega
  have kl2 : (K : Int) + (L : Int) ≤ 10000000 := by omega
  have HR3 := Lib.hid (fun W v h => Run_yes W v ps x 0 h hp hv (by omega))
  rw [res_ok h1 he] at HR1
  rw [res_ok (ok_more h1 he (K' := K + L) (by omega)) he] at HR2
  rw [res_ok (ok_more h1 he (K' := 0) (by omega)) he] at HR3
  have hss : (!((S (tx (s.reg 0))).toList == (S (tx (s.reg 0))).toList)) = false := by simp
  have hss2 : ((S (tx (s.reg 0))).toList == (S (tx (s.reg 0))).toList) = true := by simp
  generalize S (tx (s.reg 0)) = y at *
  clear h1 he
  clear h hp hv hk
  go_enter Try.func7, Try.ntmps7
  go_wp2_with fail
  refine H.out.mono ?_
  rintro e w1 ⟨rfl, h1⟩
  go_wp2_with fail
  refine (HX.out _).mono ?_
  rintro e w2 ⟨rfl, rfl⟩
  go_wp2_with fail
  refine (HT.out _ _ (HA.out.below h1)).mono ?_
  rintro e t1 ⟨v1, rfl, a1, b1⟩
  have AA := Lib.hid a1
  have bb1 := bstep h1 b1
  clear a1 b1
  go_wp2_with fail
  refine (HR1.out _ _ AA.out).mono ?_
  rintro e r1 ⟨rfl, c1⟩
  have cc1 := bstep bb1 c1
  clear c1 AA bb1
  go_wp2_with fail
  refine (HT.out _ _ (HA.out.below cc1)).mono ?_
  rintro e t2 ⟨v2, rfl, a2, b2⟩
  have AA := Lib.hid a2
  have bb2 := bstep cc1 b2
  clear a2 b2
  go_wp2_with fail
  refine (HR2.out _ _ AA.out).mono ?_
  rintro e r2 ⟨rfl, c2⟩
  have cc2 := bstep bb2 c2
  clear c2 AA bb2
  go_wp2_with fail
  refine (HT.out _ _ (HA.out.below cc2)).mono ?_
  rintro e t3 ⟨v3, rfl, a3, b3⟩
  have AA := Lib.hid a3
  have bb3 := bstep cc2 b3
  clear a3 b3
  go_wp2_with fail
  refine (HR3.out _ _ AA.out).mono ?_
  rintro e r3 ⟨rfl, c3⟩
  have cc3 := bstep bb3 c3
  clear c3 AA bb3
  go_wp2_with fail
  refine (awake3_any _).mono ?_
  rintro e w9 ⟨rfl, h9⟩
  go_wp2
  go_ret
  exact ⟨rfl, bstep cc3 h9⟩
set_option maxHeartbeats 3200000 in
set_option maxRecDepth 100000 in
theorem more_ok1 (w : World) (v : Value) (x : ByteArray) (K L : Nat) (ps : List Ins) (h : ArgP w v ps) (hp : PValid ps) (hv : vld x.data.toList = true) (hk : K + L ≤ 10000000) {s : St} {n N : Nat} (hN : N = n + 1) (h1 : runTo ps K (first (rd x.data.toList)) = some (s, N)) (he : s.at_ = ps.length) :
    Calls Try.prog 7 #[v, .string x, .int .i64 (K : Int), .int .i64 (L : Int)] w (Awake3 w) := by
  have H := Lib.hid (PV_arg w v ps true h (by have := hp.1; omega) (fun x hx => by have := PV_tree_le hp hx; omega) (by simp [hp]))
  have HX := Lib.hid (fun W => rValid_eq true x W (by have := vld_size hv; omega) hv)
  have HT := Lib.hid (fun W v h => twin_any W v ps h (by have := hp.1; omega))
  have HR1 := Lib.hid (fun W v h => Run_yes W v ps x K h hp hv (by omega))
  have HR2 := Lib.hid (fun W v h => Run_yes W v ps x (K + L) h hp hv (by omega))
  have HA := Lib.hid h
  have k0 : ¬ (K : Int) < 0 := by omega
  have l0 : ¬ (L : Int) < 0 := by omega
  have k1 : ¬ (10000000 : Int) < (K : Int) := by omega
  have k2 : (K : Int) ≤ 10000000 := by omega
  have kl : ¬ (10000000 - (K : Int)) < (L : Int) := by omega
  have kl2 : (K : Int) + (L : Int) ≤ 10000000 := by omega
  have hn := (runTo_some h1).2.1
  obtain ⟨s', g1, g2⟩ : ∃ s', runTo ps n (first (rd x.data.toList)) = some (s', n) ∧ s'.at_ ≠ ps.length := by rw [hN] at h1; exact ok_less h1
  have HR3 := Lib.hid (fun W v h => Run_yes W v ps x N h hp hv (by omega))
  have HR4 := Lib.hid (fun W v h => Run_yes W v ps x n h hp hv (by omega))
  rw [res_ok h1 he] at HR1
  rw [res_ok (ok_more h1 he (K' := K + L) (by omega)) he] at HR2
  rw [res_ok (ok_more h1 he (K' := N) (by omega)) he] at HR3
  rw [res_fuel g1 g2] at HR4
  have n1 : ¬ (K : Int) < (N : Int) := by omega
  have n2 : ((N : Int) == 0) = false := by simp; omega
  have n4 : (1 : Int) ≤ (N : Int) := by omega
  have n5 : (N : Int) ≤ 10000000 := by omega
  have n3 : (N : Int) - 1 = (n : Int) := by omega
  have hss : (!((S (tx (s.reg 0))).toList == (S (tx (s.reg 0))).toList)) = false := by simp
  have hss2 : ((S (tx (s.reg 0))).toList == (S (tx (s.reg 0))).toList) = true := by simp
  generalize S (tx (s.reg 0)) = y at *
  clear h1 he g1 g2 hN
  clear h hp hv hk
  go_enter Try.func7, Try.ntmps7
  go_wp2_with fail
  refine H.out.mono ?_
  rintro e w1 ⟨rfl, h1⟩
  go_wp2_with fail
  refine (HX.out _).mono ?_
  rintro e w2 ⟨rfl, rfl⟩
  go_wp2_with fail
  refine (HT.out _ _ (HA.out.below h1)).mono ?_
  rintro e t1 ⟨v1, rfl, a1, b1⟩
  have AA := Lib.hid a1
  have bb1 := bstep h1 b1
  clear a1 b1
  go_wp2_with fail
  refine (HR1.out _ _ AA.out).mono ?_
  rintro e r1 ⟨rfl, c1⟩
  have cc1 := bstep bb1 c1
  clear c1 AA bb1
  go_wp2_with fail
  refine (HT.out _ _ (HA.out.below cc1)).mono ?_
  rintro e t2 ⟨v2, rfl, a2, b2⟩
  have AA := Lib.hid a2
  have bb2 := bstep cc1 b2
  clear a2 b2
  go_wp2_with fail
  refine (HR2.out _ _ AA.out).mono ?_
  rintro e r2 ⟨rfl, c2⟩
  have cc2 := bstep bb2 c2
  clear c2 AA bb2
  go_wp2_with fail
  refine (HT.out _ _ (HA.out.below cc2)).mono ?_
  rintro e t3 ⟨v3, rfl, a3, b3⟩
  have AA := Lib.hid a3
  have bb3 := bstep cc2 b3
  clear a3 b3
  go_wp2_with fail
  refine (HR3.out _ _ AA.out).mono ?_
  rintro e r3 ⟨rfl, c3⟩
  have cc3 := bstep bb3 c3
  clear c3 AA bb3
  go_wp2_with fail
  refine (HT.out _ _ (HA.out.below cc3)).mono ?_
  rintro e t4 ⟨v4, rfl, a4, b4⟩
  have AA := Lib.hid a4
  have bb4 := bstep cc3 b4
  clear a4 b4
  go_wp2_with fail
  refine (HR4.out _ _ AA.out).mono ?_
  rintro e r4 ⟨rfl, c4⟩
  have cc4 := bstep bb4 c4
  clear c4 AA bb4
  go_wp2_with fail
  refine (awake3_any _).mono ?_
  rintro e w9 ⟨rfl, h9⟩
  go_wp2
  go_ret
  exact ⟨rfl, bstep cc4 h9⟩
theorem RunMore_any (w : World) (v : Value) (x : ByteArray) (f m : Int) (ps : List Ins) (h : ArgP w v ps) (hl : ps.length ≤ 281474976710656) (hz : ∀ x ∈ ps, x.tree.length ≤ 281474976710656) (hx : x.size ≤ 281474976710656) :
    Calls Try.prog 7 #[v, .string x, .int .i64 f, .int .i64 m] w fun e w' => e = .returned (.bool true) ∧ Below w.heap.size w w' := by
  by_cases hp : PValid ps
  · cases hv : vld x.data.toList with
    | false => exact more_tree w v x f m ps h hp hx hv
    | true =>
      by_cases hf : f < 0
      · exact more_neg w v x f m ps h hp hv hf
      by_cases hm : m < 0
      · exact more_neg2 w v x f m ps h hp hv (by omega) hm
      by_cases hf2 : 10000000 < f
      · exact more_big w v x f m ps h hp hv hf2 (by omega)
      by_cases hm2 : 10000000 - f < m
      · exact more_big2 w v x f m ps h hp hv (by omega) (by omega) (by omega) hm2
      obtain ⟨K, rfl⟩ : ∃ K : Nat, f = (K : Int) := ⟨f.toNat, by omega⟩
      obtain ⟨L, rfl⟩ : ∃ L : Nat, m = (L : Int) := ⟨m.toNat, by omega⟩
      have hk : K + L ≤ 10000000 := by omega
      cases h1 : runTo ps K (first (rd x.data.toList)) with
      | none => exact more_size w v x K L ps h hp hv hk h1
      | some r =>
        obtain ⟨s, n⟩ := r
        by_cases he : s.at_ = ps.length
        · cases n with
          | zero => exact more_ok0 w v x K L ps h hp hv hk h1 he
          | succ n => exact more_ok1 w v x K L ps h hp hv hk rfl h1 he
        · cases h2 : runTo ps (K + L) (first (rd x.data.toList)) with
          | none => exact more_fuel1 w v x K L ps h hp hv hk h1 he h2
          | some r2 =>
            obtain ⟨s2, n2⟩ := r2
            by_cases he2 : s2.at_ = ps.length
            · exact more_fuel3 w v x K L ps h hp hv hk h1 he h2 he2
            · exact more_fuel2 w v x K L ps h hp hv hk h1 he h2 he2
  · exact more_form w v x f m ps h hl hz hp
end Go.Proofs.Ytagaiamjmdjenaa
