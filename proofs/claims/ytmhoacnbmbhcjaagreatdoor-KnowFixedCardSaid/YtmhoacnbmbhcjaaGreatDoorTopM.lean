/- Runs of programs put together, with any fuel: plain mathematics. By an AI agent. -/
import Derived.Test.YtmhoacnbmbhcjaaGreatDoorMth
namespace Go.Proofs.YtmhoacnbmbhcjaaGreatDoor
open Go.RowKit Pl

theorem runTo_cut {ps : List Ins} {s0 : St} : ∀ {K : Nat} {s : St}, Steps ps s0 K s → ∀ {k : Nat}, k ≤ K → ∃ t, Steps ps s0 k t ∧ (k < K → t.at_ ≠ ps.length) := by
  intro K s h
  induction h with
  | zero => intro k hk; obtain rfl : k = 0 := by omega
            exact ⟨s0, .zero, fun h => absurd h (by omega)⟩
  | @succ n s t h1 h2 h3 ih =>
    intro k hk
    by_cases e : k = n + 1
    · subst e; exact ⟨t, .succ h1 h2 h3, fun h => absurd h (by omega)⟩
    · obtain ⟨u, k1, k2⟩ := ih (k := k) (by omega)
      refine ⟨u, k1, fun _ => ?_⟩
      by_cases e2 : k = n
      · subst e2
        have := Steps.det k1 h1
        subst this; exact h2
      · exact k2 (by omega)
/-- what has not ended after K steps has not after fewer -/
theorem out_less {ps : List Ins} {K k : Nat} {s0 : St} (h : out ps K s0 = .fuel) (hk : k ≤ K) : out ps k s0 = .fuel := by
  obtain ⟨s, h1, h2⟩ := out_is_fuel h
  obtain ⟨t, k1, k2⟩ := runTo_cut h1 hk
  refine out_fuel k1 ?_
  by_cases e : k = K
  · subst e; have := Steps.det k1 h1; subst this; exact h2
  · exact k2 (by omega)
/-- not ended where it is somewhere else after so many steps -/
theorem out_mid {ps : List Ins} {K k : Nat} {s0 s : St} (h : Steps ps s0 K s) (he : s.at_ ≠ ps.length) (hk : k ≤ K) : out ps k s0 = .fuel := out_less (out_fuel h he) hk
theorem out_on {ps : List Ins} {F k : Nat} {s0 s : St} {n : Nat} (h : Steps ps s0 n s) (ho : out ps F s = .fuel) (hk : k ≤ n + F) : out ps k s0 = .fuel := by
  refine out_less (K := n + F) ?_ hk
  rw [out_steps h, ho]; rfl
theorem pstart_ok {A p B cs : List Ins} (hc : cs = A ++ p ++ B) (hv : PValid p) {s0 s : St} {N F k : Nat} (hs : Steps cs s0 N s) {y z : Tr} (hy : (tx y).length ≤ 2000000) (hst : Start A.length (rn p) y s) (ho : out p F (first y) = .ok z k) :
    ∃ s', Steps cs s0 (N + k) s' ∧ At (A.length + p.length) s' ∧ s'.regs[0]? = some z ∧ (∀ r, rn p ≤ r → s'.regs[r]? = s.regs[r]?) ∧ (tx z).length ≤ 2000000 := by
  have hm : regs p ≤ (rn p : Nat) := by rw [rn_eq]; exact Int.le_refl _
  have hf := first_ok p.length hy
  obtain ⟨_, s', h2, h3, h4, h5, h6⟩ := part_ok hc hv hm (hst.sim (rn_le hv)) hf ho
  refine ⟨s', hs.then h2, ⟨h3, h4⟩, h5, h6, ?_⟩
  obtain ⟨t, g1, _, _, g4⟩ := out_ok ho
  rw [← g4]
  exact St.reg_le (g1.ok hv hf) 0
theorem pstart_fuel {A p B cs : List Ins} (hc : cs = A ++ p ++ B) (hv : PValid p) {s0 s : St} {N F K : Nat} (hs : Steps cs s0 N s) {y : Tr} (hy : (tx y).length ≤ 2000000) (hst : Start A.length (rn p) y s) (ho : out p F (first y) = .fuel) (hK : K ≤ N + F) : out cs K s0 = .fuel := by
  have hm : regs p ≤ (rn p : Nat) := by rw [rn_eq]; exact Int.le_refl _
  exact out_on hs (part_fuel hc hv hm (hst.sim (rn_le hv)) (first_ok p.length hy) ho) hK
theorem clean_start {A p B cs : List Ins} (hc : cs = A ++ behind p ++ B) (hv : PValid p) {s0 s : St} {N : Nat} (hs : Steps cs s0 N s) {y : Tr} (ha : At A.length s) (hr0 : s.regs[0]? = some y) :
    cs = (A ++ cleanL (rn p)) ++ p ++ B ∧ ∃ s1, Steps cs s0 (N + (rn p - 1)) s1 ∧ Start (A ++ cleanL (rn p)).length (rn p) y s1 ∧ ∀ r, rn p ≤ r → s1.regs[r]? = s.regs[r]? := by
  have hp := rn_pos p
  have hc1 : cs = A ++ cleanL (rn p) ++ (p ++ B) := by rw [hc]; simp [behind]
  obtain ⟨s1, k1, k2, k3, k4⟩ := clean_run hc1 (rn_le hv) ha (rn p - 1) (Nat.le_refl _)
  have hln : (A ++ cleanL (rn p)).length = A.length + (rn p - 1) := by rw [List.length_append, cleanL_len]
  exact ⟨by rw [hc]; simp [behind], s1, hs.then k1, ⟨by rw [hln]; exact k2, by rw [k3 0 (.inl rfl)]; exact hr0, fun r h1 h2 => k4 r h1 (by omega)⟩, fun r hr => k3 r (.inr (by omega))⟩
theorem pclean_ok {A p B cs : List Ins} (hc : cs = A ++ behind p ++ B) (hv : PValid p) {s0 s : St} {N F k : Nat} (hs : Steps cs s0 N s) {y z : Tr} (hy : (tx y).length ≤ 2000000) (ha : At A.length s) (hr0 : s.regs[0]? = some y) (ho : out p F (first y) = .ok z k) :
    ∃ s', Steps cs s0 (N + (rn p - 1) + k) s' ∧ At (A.length + (behind p).length) s' ∧ s'.regs[0]? = some z ∧ (∀ r, rn p ≤ r → s'.regs[r]? = s.regs[r]?) ∧ (tx z).length ≤ 2000000 := by
  obtain ⟨h1, s1, h2, h3, h4⟩ := clean_start hc hv hs ha hr0
  obtain ⟨s', g1, g2, g3, g4, g5⟩ := pstart_ok h1 hv h2 hy h3 ho
  have hln : (A ++ cleanL (rn p)).length + p.length = A.length + (behind p).length := by unfold behind; simp only [List.length_append]; omega
  exact ⟨s', g1, by rw [← hln]; exact g2, g3, fun r hr => by rw [g4 r hr, h4 r hr], g5⟩
theorem pclean_fuel {A p B cs : List Ins} (hc : cs = A ++ behind p ++ B) (hv : PValid p) {s0 s : St} {N F K : Nat} (hs : Steps cs s0 N s) {y : Tr} (hy : (tx y).length ≤ 2000000) (ha : At A.length s) (hr0 : s.regs[0]? = some y) (ho : out p F (first y) = .fuel) (hK : K ≤ N + (rn p - 1) + F) : out cs K s0 = .fuel := by
  obtain ⟨h1, s1, h2, h3, h4⟩ := clean_start hc hv hs ha hr0
  exact pstart_fuel h1 hv h2 hy h3 ho hK

theorem then_eq (p q : List Ins) : thenL [p, q] = [] ++ p ++ behind q ∧ thenL [p, q] = p ++ behind q ++ [] := by simp [thenL]
theorem then_end {p q : List Ins} (hp : PValid p) (hq : PValid q) {x y z : Tr} {k n F : Nat} (hx : (tx x).length ≤ 2000000) (h1 : out p F (first x) = .ok y k) (h2 : out q F (first y) = .ok z n) :
    out (thenL [p, q]) (k + n + (rn q - 1)) (first x) = .ok z (k + n + (rn q - 1)) := by
  obtain ⟨s1, f1, f2, f3, f4, f5⟩ := pstart_ok (then_eq p q).1 hp .zero hx (start_first x _ (rn_le hp)) h1
  obtain ⟨s2, g1, g2, g3, g4, g5⟩ := pclean_ok (then_eq p q).2 hq f1 f5 (by simpa using f2) f3 h2
  have he : s2.at_ = (thenL [p, q]).length := by rw [g2.1, (then_eq p q).2]; simp
  have := out_end g1 (Nat.le_refl _) he
  rw [show k + n + (rn q - 1) = 0 + k + (rn q - 1) + n from by omega, this]
  congr 1
  exact reg_of (n := 0) rfl g3
theorem then_going {p q : List Ins} (hp : PValid p) {x : Tr} {F : Nat} (hx : (tx x).length ≤ 2000000) (h1 : out p F (first x) = .fuel) : out (thenL [p, q]) F (first x) = .fuel :=
  pstart_fuel (then_eq p q).1 hp .zero hx (start_first x _ (rn_le hp)) h1 (by omega)
theorem then_going2 {p q : List Ins} (hp : PValid p) (hq : PValid q) {x y : Tr} {k F : Nat} (hx : (tx x).length ≤ 2000000) (h1 : out p F (first x) = .ok y k) (h2 : out q F (first y) = .fuel) : out (thenL [p, q]) F (first x) = .fuel := by
  obtain ⟨s1, f1, f2, f3, f4, f5⟩ := pstart_ok (then_eq p q).1 hp .zero hx (start_first x _ (rn_le hp)) h1
  exact pclean_fuel (then_eq p q).2 hq f1 f5 (by simpa using f2) f3 h2 (by omega)
theorem pair_going {p q : List Ins} (hp : PValid p) (h1 : rn p ≤ 28) (h2 : rn q ≤ 28) {x : Tr} {F : Nat} (hx : (tx x).length ≤ 2000000) (ho : out p F (first x) = .fuel) : out (pairL p q) F (first x) = .fuel := by
  generalize hn : max (rn p) (rn q) = n
  have e0 : pairL p q = [moveI (n : Int) 0] ++ p ++ [moveI ((n : Int) + 1) 0, moveI (0 : Int) n] ++ behind q ++ [consI 0 ((n : Int) + 1) 0] := by unfold pairL; rw [hn]
  generalize hcs : pairL p q = cs at *
  have c1 : cs = [] ++ moveI (n : Int) 0 :: (p ++ [moveI ((n : Int) + 1) 0, moveI (0 : Int) n] ++ behind q ++ [consI 0 ((n : Int) + 1) 0]) := by rw [e0]; simp
  have c2 : cs = [moveI (n : Int) 0] ++ p ++ ([moveI ((n : Int) + 1) 0, moveI (0 : Int) n] ++ behind q ++ [consI 0 ((n : Int) + 1) 0]) := by rw [e0]; simp
  have hp1 := rn_pos p
  have st0 := start_first x 32 (Nat.le_refl _)
  obtain ⟨s1, k1, k2, k3, k4⟩ := do_move c1 st0.here (n := n) rfl (by omega) (k := 0) rfl st0.r0
  have hst : Start ([moveI (n : Int) 0] : List Ins).length (rn p) x s1 := ⟨k2, by rw [k4 0 (by omega)]; exact st0.r0, fun r g1 g2 => by rw [k4 r (by omega)]; exact st0.rest r g1 (by omega)⟩
  exact pstart_fuel c2 hp k1 hx hst ho (by omega)
theorem pair_end {p q : List Ins} (hp : PValid p) (hq : PValid q) (h1 : rn p ≤ 28) (h2 : rn q ≤ 28) {x y z : Tr} {k l F : Nat} (hx : (tx x).length ≤ 2000000) (ho : out p F (first x) = .ok y k) (ho2 : out q F (first x) = .ok z l) (hz : (tx (.pair y z)).length ≤ 2000000) :
    out (pairL p q) (k + l + (rn q - 1) + 4) (first x) = .ok (.pair y z) (k + l + (rn q - 1) + 4) := by
  generalize hn : max (rn p) (rn q) = n
  have e0 : pairL p q = [moveI (n : Int) 0] ++ p ++ [moveI ((n : Int) + 1) 0, moveI (0 : Int) n] ++ behind q ++ [consI 0 ((n : Int) + 1) 0] := by unfold pairL; rw [hn]
  generalize hcs : pairL p q = cs at *
  have c1 : cs = [] ++ moveI (n : Int) 0 :: (p ++ [moveI ((n : Int) + 1) 0, moveI (0 : Int) n] ++ behind q ++ [consI 0 ((n : Int) + 1) 0]) := by rw [e0]; simp
  have c2 : cs = [moveI (n : Int) 0] ++ p ++ ([moveI ((n : Int) + 1) 0, moveI (0 : Int) n] ++ behind q ++ [consI 0 ((n : Int) + 1) 0]) := by rw [e0]; simp
  have c3 : cs = ([moveI (n : Int) 0] ++ p) ++ moveI ((n : Int) + 1) 0 :: ([moveI (0 : Int) n] ++ behind q ++ [consI 0 ((n : Int) + 1) 0]) := by rw [e0]; simp
  have c4 : cs = ([moveI (n : Int) 0] ++ p ++ [moveI ((n : Int) + 1) 0]) ++ moveI (0 : Int) n :: (behind q ++ [consI 0 ((n : Int) + 1) 0]) := by rw [e0]; simp
  have c5 : cs = ([moveI (n : Int) 0] ++ p ++ [moveI ((n : Int) + 1) 0, moveI (0 : Int) n]) ++ behind q ++ [consI 0 ((n : Int) + 1) 0] := by rw [e0]
  have c6 : cs = ([moveI (n : Int) 0] ++ p ++ [moveI ((n : Int) + 1) 0, moveI (0 : Int) n] ++ behind q) ++ consI 0 ((n : Int) + 1) 0 :: [] := by rw [e0]
  have hnp : rn p ≤ n := by omega
  have hnq : rn q ≤ n := by omega
  have hp1 := rn_pos p
  have st0 := start_first x 32 (Nat.le_refl _)
  obtain ⟨s1, k1, k2, k3, k4⟩ := do_move c1 st0.here (n := n) rfl (by omega) (k := 0) rfl st0.r0
  have hst : Start ([moveI (n : Int) 0] : List Ins).length (rn p) x s1 := ⟨k2, by rw [k4 0 (by omega)]; exact st0.r0, fun r g1 g2 => by rw [k4 r (by omega)]; exact st0.rest r g1 (by omega)⟩
  obtain ⟨s2, f1, f2, f3, f4, f5⟩ := pstart_ok c2 hp k1 hx hst ho
  have hl3 : ([moveI (n : Int) 0] ++ p : List Ins).length = ([moveI (n : Int) 0] : List Ins).length + p.length := List.length_append
  obtain ⟨s3, m1, m2, m3, m4⟩ := do_move c3 (s := s2) (by rw [hl3]; exact f2) (n := n + 1) (by omega) (by omega) (k := 0) rfl f3
  have hl4 : ([moveI (n : Int) 0] ++ p ++ [moveI ((n : Int) + 1) 0] : List Ins).length = ([moveI (n : Int) 0] ++ p : List Ins).length + 1 := by simp only [List.length_append, List.length_cons, List.length_nil] <;> omega
  have hxn : s3.regs[n]? = some x := by rw [m4 n (by omega), f4 n hnp, k3]
  obtain ⟨s4, n1, n2, n3, n4⟩ := do_move c4 (s := s3) (by rw [hl4]; exact m2) (n := 0) rfl (by omega) (k := n) rfl hxn
  have hl5 : ([moveI (n : Int) 0] ++ p ++ [moveI ((n : Int) + 1) 0, moveI (0 : Int) n] : List Ins).length = ([moveI (n : Int) 0] ++ p ++ [moveI ((n : Int) + 1) 0] : List Ins).length + 1 := by simp only [List.length_append, List.length_cons, List.length_nil] <;> omega
  obtain ⟨s5, g1, g2, g3, g4, g5⟩ := pclean_ok c5 hq ((f1.then m1).then n1) hx (by rw [hl5]; exact n2) n3 ho2
  have hl6 : ([moveI (n : Int) 0] ++ p ++ [moveI ((n : Int) + 1) 0, moveI (0 : Int) n] ++ behind q : List Ins).length = ([moveI (n : Int) 0] ++ p ++ [moveI ((n : Int) + 1) 0, moveI (0 : Int) n] : List Ins).length + (behind q).length := List.length_append
  have hyn : s5.regs[n + 1]? = some y := by rw [g4 (n + 1) (by omega), n4 (n + 1) (by omega), m3]
  obtain ⟨s6, o1, o2, o3, o4⟩ := do_cons c6 (s := s5) (by rw [hl6]; exact g2) (n := 0) rfl (by omega) (k := n + 1) (l := 0) (by omega) rfl hyn g3 hz
  have he : s6.at_ = cs.length := by rw [o2.1, c6]; simp only [List.length_append, List.length_cons, List.length_nil]
  have := out_end (g1.then o1) (Nat.le_refl _) he
  rw [show k + l + (rn q - 1) + 4 = 1 + k + 1 + 1 + (rn q - 1) + l + 1 from by omega, this]
  congr 1
  exact reg_of (n := 0) rfl o3
theorem if_going {c p q : List Ins} (hc : PValid c) (h0 : rn c ≤ 28) (h1 : rn p ≤ 28) (h2 : rn q ≤ 28) {x : Tr} {F : Nat} (hx : (tx x).length ≤ 2000000) (ho : out c F (first x) = .fuel) : out (ifL c p q) F (first x) = .fuel := by
  generalize hn : max (max (rn c) (rn p)) (rn q) = n
  generalize hu : ((behind q).length : Int) + 4 = u
  generalize hw : ((behind p).length : Int) + 2 = w
  have e0 : ifL c p q = [moveI (n : Int) 0] ++ c ++ [jumpI 0 u, moveI (0 : Int) n] ++ behind q ++ [setI n [49, 48, 48], jumpI n w, moveI (0 : Int) n] ++ behind p := by unfold ifL; rw [hn, hu, hw]
  generalize hcs : ifL c p q = cs at *
  have c1 : cs = [] ++ moveI (n : Int) 0 :: (c ++ [jumpI 0 u, moveI (0 : Int) n] ++ behind q ++ [setI n [49, 48, 48], jumpI n w, moveI (0 : Int) n] ++ behind p) := by rw [e0]; simp
  have c2 : cs = [moveI (n : Int) 0] ++ c ++ ([jumpI 0 u, moveI (0 : Int) n] ++ behind q ++ [setI n [49, 48, 48], jumpI n w, moveI (0 : Int) n] ++ behind p) := by rw [e0]; simp
  have hp1 := rn_pos c
  have st0 := start_first x 32 (Nat.le_refl _)
  obtain ⟨s1, k1, k2, k3, k4⟩ := do_move c1 st0.here (n := n) rfl (by omega) (k := 0) rfl st0.r0
  have hst : Start ([moveI (n : Int) 0] : List Ins).length (rn c) x s1 := ⟨k2, by rw [k4 0 (by omega)]; exact st0.r0, fun r g1 g2 => by rw [k4 r (by omega)]; exact st0.rest r g1 (by omega)⟩
  exact pstart_fuel c2 hc k1 hx hst ho (by omega)
theorem if_all {c p q : List Ins} (hc : PValid c) (hp : PValid p) (hq : PValid q) (h0 : rn c ≤ 28) (h1 : rn p ≤ 28) (h2 : rn q ≤ 28) {x y : Tr} {k F : Nat} (hx : (tx x).length ≤ 2000000) (ho : out c F (first x) = .ok y k) :
    (y ≠ .nil → (∀ z l F', out p F' (first x) = .ok z l → out (ifL c p q) (k + rn p + 2 + l) (first x) = .ok z (k + rn p + 2 + l)) ∧ ∀ F', out p F' (first x) = .fuel → out (ifL c p q) F' (first x) = .fuel) ∧
    (y = .nil → (∀ z l F', out q F' (first x) = .ok z l → out (ifL c p q) (k + rn q + 4 + l) (first x) = .ok z (k + rn q + 4 + l)) ∧ ∀ F', out q F' (first x) = .fuel → out (ifL c p q) F' (first x) = .fuel) := by
  generalize hn : max (max (rn c) (rn p)) (rn q) = n
  generalize hu : ((behind q).length : Int) + 4 = u
  generalize hw : ((behind p).length : Int) + 2 = w
  have e0 : ifL c p q = [moveI (n : Int) 0] ++ c ++ [jumpI 0 u, moveI (0 : Int) n] ++ behind q ++ [setI n [49, 48, 48], jumpI n w, moveI (0 : Int) n] ++ behind p := by unfold ifL; rw [hn, hu, hw]
  generalize hcs : ifL c p q = cs at *
  have c1 : cs = [] ++ moveI (n : Int) 0 :: (c ++ [jumpI 0 u, moveI (0 : Int) n] ++ behind q ++ [setI n [49, 48, 48], jumpI n w, moveI (0 : Int) n] ++ behind p) := by rw [e0]; simp
  have c2 : cs = [moveI (n : Int) 0] ++ c ++ ([jumpI 0 u, moveI (0 : Int) n] ++ behind q ++ [setI n [49, 48, 48], jumpI n w, moveI (0 : Int) n] ++ behind p) := by rw [e0]; simp
  have c3 : cs = ([moveI (n : Int) 0] ++ c) ++ jumpI 0 u :: ([moveI (0 : Int) n] ++ behind q ++ [setI n [49, 48, 48], jumpI n w, moveI (0 : Int) n] ++ behind p) := by rw [e0]; simp
  have c4 : cs = ([moveI (n : Int) 0] ++ c ++ [jumpI 0 u]) ++ moveI (0 : Int) n :: (behind q ++ [setI n [49, 48, 48], jumpI n w, moveI (0 : Int) n] ++ behind p) := by rw [e0]; simp
  have c5 : cs = ([moveI (n : Int) 0] ++ c ++ [jumpI 0 u, moveI (0 : Int) n]) ++ behind q ++ ([setI n [49, 48, 48], jumpI n w, moveI (0 : Int) n] ++ behind p) := by rw [e0]; simp
  have c6 : cs = ([moveI (n : Int) 0] ++ c ++ [jumpI 0 u, moveI (0 : Int) n] ++ behind q) ++ setI n [49, 48, 48] :: ([jumpI n w, moveI (0 : Int) n] ++ behind p) := by rw [e0]; simp
  have c7 : cs = ([moveI (n : Int) 0] ++ c ++ [jumpI 0 u, moveI (0 : Int) n] ++ behind q ++ [setI n [49, 48, 48]]) ++ jumpI n w :: ([moveI (0 : Int) n] ++ behind p) := by rw [e0]; simp
  have c8 : cs = ([moveI (n : Int) 0] ++ c ++ [jumpI 0 u, moveI (0 : Int) n] ++ behind q ++ [setI n [49, 48, 48], jumpI n w]) ++ moveI (0 : Int) n :: (behind p) := by rw [e0]; simp
  have c9 : cs = ([moveI (n : Int) 0] ++ c ++ [jumpI 0 u, moveI (0 : Int) n] ++ behind q ++ [setI n [49, 48, 48], jumpI n w, moveI (0 : Int) n]) ++ behind p ++ [] := by rw [e0]; simp
  have hnc : rn c ≤ n := by omega
  have hnp : rn p ≤ n := by omega
  have hnq : rn q ≤ n := by omega
  have hp1 := rn_pos c
  have hp2 := rn_pos p
  have hp3 := rn_pos q
  have st0 := start_first x 32 (Nat.le_refl _)
  obtain ⟨s1, k1, k2, k3, k4⟩ := do_move c1 st0.here (n := n) rfl (by omega) (k := 0) rfl st0.r0
  have hst : Start ([moveI (n : Int) 0] : List Ins).length (rn c) x s1 := ⟨k2, by rw [k4 0 (by omega)]; exact st0.r0, fun r g1 g2 => by rw [k4 r (by omega)]; exact st0.rest r g1 (by omega)⟩
  obtain ⟨s2, f1, f2, f3, f4, f5⟩ := pstart_ok c2 hc k1 hx hst ho
  have hl3 : ([moveI (n : Int) 0] ++ c : List Ins).length = ([moveI (n : Int) 0] : List Ins).length + c.length := List.length_append
  have hxn : s2.regs[n]? = some x := by rw [f4 n hnc, k3]
  refine ⟨fun hy => ?_, fun hy => ?_⟩
  · obtain ⟨s3, m1, m2, m3⟩ := do_jump c3 (s := s2) (by rw [hl3]; exact f2) (n := 0) rfl f3 hy (dst := ([moveI (n : Int) 0] ++ c ++ [jumpI 0 u, moveI (0 : Int) n] ++ behind q ++ [setI n [49, 48, 48], jumpI n w] : List Ins).length) (by rw [← hu]; simp only [List.length_append, List.length_cons, List.length_nil]; omega)
    obtain ⟨s4, n1, n2, n3, n4⟩ := do_move c8 (s := s3) m2 (n := 0) rfl (by omega) (k := n) rfl (by rw [m3]; exact hxn)
    have hl9 : ([moveI (n : Int) 0] ++ c ++ [jumpI 0 u, moveI (0 : Int) n] ++ behind q ++ [setI n [49, 48, 48], jumpI n w, moveI (0 : Int) n] : List Ins).length = ([moveI (n : Int) 0] ++ c ++ [jumpI 0 u, moveI (0 : Int) n] ++ behind q ++ [setI n [49, 48, 48], jumpI n w] : List Ins).length + 1 := by simp only [List.length_append, List.length_cons, List.length_nil] <;> omega
    refine ⟨fun z l F' ho2 => ?_, fun F' ho2 => pclean_fuel c9 hp ((f1.then m1).then n1) hx (by rw [hl9]; exact n2) n3 ho2 (by omega)⟩
    obtain ⟨s5, g1, g2, g3, g4, g5⟩ := pclean_ok c9 hp ((f1.then m1).then n1) hx (by rw [hl9]; exact n2) n3 ho2
    have hend : s5.at_ = cs.length := by rw [g2.1, c9]; simp only [List.length_append, List.length_cons, List.length_nil]; omega
    have := out_end g1 (Nat.le_refl _) hend
    rw [show k + rn p + 2 + l = 1 + k + 1 + 1 + (rn p - 1) + l from by omega, this]
    congr 1
    exact reg_of (n := 0) rfl g3
  · subst hy
    obtain ⟨s3, m1, m2, m3⟩ := no_jump c3 (s := s2) (by rw [hl3]; exact f2) (n := 0) rfl f3
    have hl4 : ([moveI (n : Int) 0] ++ c ++ [jumpI 0 u] : List Ins).length = ([moveI (n : Int) 0] ++ c : List Ins).length + 1 := by simp only [List.length_append, List.length_cons, List.length_nil] <;> omega
    obtain ⟨s4, n1, n2, n3, n4⟩ := do_move c4 (s := s3) (by rw [hl4]; exact m2) (n := 0) rfl (by omega) (k := n) rfl (by rw [m3]; exact hxn)
    have hl5 : ([moveI (n : Int) 0] ++ c ++ [jumpI 0 u, moveI (0 : Int) n] : List Ins).length = ([moveI (n : Int) 0] ++ c ++ [jumpI 0 u] : List Ins).length + 1 := by simp only [List.length_append, List.length_cons, List.length_nil] <;> omega
    refine ⟨fun z l F' ho2 => ?_, fun F' ho2 => pclean_fuel c5 hq ((f1.then m1).then n1) hx (by rw [hl5]; exact n2) n3 ho2 (by omega)⟩
    obtain ⟨s5, g1, g2, g3, g4, g5⟩ := pclean_ok c5 hq ((f1.then m1).then n1) hx (by rw [hl5]; exact n2) n3 ho2
    have hl6 : ([moveI (n : Int) 0] ++ c ++ [jumpI 0 u, moveI (0 : Int) n] ++ behind q : List Ins).length = ([moveI (n : Int) 0] ++ c ++ [jumpI 0 u, moveI (0 : Int) n] : List Ins).length + (behind q).length := List.length_append
    obtain ⟨s6, o1, o2, o3, o4⟩ := do_set c6 (s := s5) (by rw [hl6]; exact g2) (n := n) rfl (by omega)
    rw [rdp_100] at o3
    have hl7 : ([moveI (n : Int) 0] ++ c ++ [jumpI 0 u, moveI (0 : Int) n] ++ behind q ++ [setI n [49, 48, 48]] : List Ins).length = ([moveI (n : Int) 0] ++ c ++ [jumpI 0 u, moveI (0 : Int) n] ++ behind q : List Ins).length + 1 := by simp only [List.length_append, List.length_cons, List.length_nil] <;> omega
    obtain ⟨s7, q1, q2, q3⟩ := do_jump c7 (s := s6) (by rw [hl7]; exact o2) (n := n) rfl o3 (by simp) (dst := cs.length) (by rw [c7, ← hw]; simp only [List.length_append, List.length_cons, List.length_nil]; omega)
    have := out_end ((g1.then o1).then q1) (Nat.le_refl _) q2.1
    rw [show k + rn q + 4 + l = 1 + k + 1 + 1 + (rn q - 1) + l + 1 + 1 from by omega, this]
    congr 1
    exact reg_of (n := 0) rfl (by rw [q3, o4 0 (by omega)]; exact g3)
/-- a round of a loop, at the place at which it begins -/
theorem while_all {c p : List Ins} (hc : PValid c) (hp : PValid p) (h0 : rn c ≤ 28) (h1 : rn p ≤ 28) {s0 s : St} {N : Nat} {x : Tr} (hx : (tx x).length ≤ 2000000) (hs : Steps (whileL c p) s0 N s) (ha : At 0 s) (hr : s.regs[0]? = some x) :
    (∀ F, out c F (first x) = .fuel → ∀ K, K ≤ F → out (whileL c p) K s0 = .fuel) ∧
    (∀ y k F, out c F (first x) = .ok y k →
      (y = .nil → out (whileL c p) (N + k + rn c + 4) s0 = .ok x (N + k + rn c + 4)) ∧
      (y ≠ .nil → (∀ F', out p F' (first x) = .fuel → ∀ K, K ≤ F' → out (whileL c p) K s0 = .fuel) ∧
        ∀ z l F', out p F' (first x) = .ok z l → (tx z).length ≤ 2000000 ∧ ∃ s', Steps (whileL c p) s0 (N + k + rn c + 1 + l + rn p + 2) s' ∧ At 0 s' ∧ s'.regs[0]? = some z)) := by
  generalize hn : max (rn c) (rn p) = n
  generalize hu : ((behind p).length : Int) + 4 = u
  generalize hw : -((([moveI (n : Int) 0] ++ behind c ++ [jumpI 0 4, moveI 0 n, setI n [49, 48, 48], jumpI n u, moveI 0 n] ++ behind p ++ [setI n [49, 48, 48]] : List Ins).length : Int)) = w
  have e0 := whileL_at hn hu hw
  generalize hcs : whileL c p = cs at *
  have c1 : cs = [] ++ moveI (n : Int) 0 :: (behind c ++ [jumpI 0 4, moveI 0 n, setI n [49, 48, 48], jumpI n u, moveI 0 n] ++ behind p ++ [setI n [49, 48, 48]] ++ [jumpI n w]) := by rw [e0]; simp
  have c2 : cs = [moveI (n : Int) 0] ++ behind c ++ ([jumpI 0 4, moveI 0 n, setI n [49, 48, 48], jumpI n u, moveI 0 n] ++ behind p ++ [setI n [49, 48, 48]] ++ [jumpI n w]) := by rw [e0]; simp
  have c3 : cs = ([moveI (n : Int) 0] ++ behind c) ++ jumpI 0 4 :: ([moveI 0 n, setI n [49, 48, 48], jumpI n u, moveI 0 n] ++ behind p ++ [setI n [49, 48, 48]] ++ [jumpI n w]) := by rw [e0]; simp
  have c4 : cs = ([moveI (n : Int) 0] ++ behind c ++ [jumpI 0 4]) ++ moveI 0 n :: ([setI n [49, 48, 48], jumpI n u, moveI 0 n] ++ behind p ++ [setI n [49, 48, 48]] ++ [jumpI n w]) := by rw [e0]; simp
  have c5 : cs = ([moveI (n : Int) 0] ++ behind c ++ [jumpI 0 4, moveI 0 n]) ++ setI n [49, 48, 48] :: ([jumpI n u, moveI 0 n] ++ behind p ++ [setI n [49, 48, 48]] ++ [jumpI n w]) := by rw [e0]; simp
  have c6 : cs = ([moveI (n : Int) 0] ++ behind c ++ [jumpI 0 4, moveI 0 n, setI n [49, 48, 48]]) ++ jumpI n u :: ([moveI 0 n] ++ behind p ++ [setI n [49, 48, 48]] ++ [jumpI n w]) := by rw [e0]; simp
  have c7 : cs = ([moveI (n : Int) 0] ++ behind c ++ [jumpI 0 4, moveI 0 n, setI n [49, 48, 48], jumpI n u]) ++ moveI 0 n :: (behind p ++ [setI n [49, 48, 48]] ++ [jumpI n w]) := by rw [e0]; simp
  have c8 : cs = ([moveI (n : Int) 0] ++ behind c ++ [jumpI 0 4, moveI 0 n, setI n [49, 48, 48], jumpI n u, moveI 0 n]) ++ behind p ++ ([setI n [49, 48, 48]] ++ [jumpI n w]) := by rw [e0]; simp
  have c9 : cs = ([moveI (n : Int) 0] ++ behind c ++ [jumpI 0 4, moveI 0 n, setI n [49, 48, 48], jumpI n u, moveI 0 n] ++ behind p) ++ setI n [49, 48, 48] :: [jumpI n w] := by rw [e0]; simp
  have c10 : cs = ([moveI (n : Int) 0] ++ behind c ++ [jumpI 0 4, moveI 0 n, setI n [49, 48, 48], jumpI n u, moveI 0 n] ++ behind p ++ [setI n [49, 48, 48]]) ++ jumpI n w :: [] := by rw [e0]
  have l3 : ([moveI (n : Int) 0] ++ behind c : List Ins).length = ([moveI (n : Int) 0] : List Ins).length + (behind c).length := List.length_append
  have l4 : ([moveI (n : Int) 0] ++ behind c ++ [jumpI 0 4] : List Ins).length = ([moveI (n : Int) 0] ++ behind c : List Ins).length + 1 := by simp only [List.length_append, List.length_cons, List.length_nil] <;> omega
  have l5 : ([moveI (n : Int) 0] ++ behind c ++ [jumpI 0 4, moveI 0 n] : List Ins).length = ([moveI (n : Int) 0] ++ behind c ++ [jumpI 0 4] : List Ins).length + 1 := by simp only [List.length_append, List.length_cons, List.length_nil] <;> omega
  have l6 : ([moveI (n : Int) 0] ++ behind c ++ [jumpI 0 4, moveI 0 n, setI n [49, 48, 48]] : List Ins).length = ([moveI (n : Int) 0] ++ behind c ++ [jumpI 0 4, moveI 0 n] : List Ins).length + 1 := by simp only [List.length_append, List.length_cons, List.length_nil] <;> omega
  have l8 : ([moveI (n : Int) 0] ++ behind c ++ [jumpI 0 4, moveI 0 n, setI n [49, 48, 48], jumpI n u, moveI 0 n] : List Ins).length = ([moveI (n : Int) 0] ++ behind c ++ [jumpI 0 4, moveI 0 n, setI n [49, 48, 48], jumpI n u] : List Ins).length + 1 := by simp only [List.length_append, List.length_cons, List.length_nil] <;> omega
  have l9 : ([moveI (n : Int) 0] ++ behind c ++ [jumpI 0 4, moveI 0 n, setI n [49, 48, 48], jumpI n u, moveI 0 n] ++ behind p : List Ins).length = ([moveI (n : Int) 0] ++ behind c ++ [jumpI 0 4, moveI 0 n, setI n [49, 48, 48], jumpI n u, moveI 0 n] : List Ins).length + (behind p).length := List.length_append
  have l10 : ([moveI (n : Int) 0] ++ behind c ++ [jumpI 0 4, moveI 0 n, setI n [49, 48, 48], jumpI n u, moveI 0 n] ++ behind p ++ [setI n [49, 48, 48]] : List Ins).length = ([moveI (n : Int) 0] ++ behind c ++ [jumpI 0 4, moveI 0 n, setI n [49, 48, 48], jumpI n u, moveI 0 n] ++ behind p : List Ins).length + 1 := by simp only [List.length_append, List.length_cons, List.length_nil] <;> omega
  have hnc : rn c ≤ n := by omega
  have hnp : rn p ≤ n := by omega
  have hp1 := rn_pos c
  have hp2 := rn_pos p
  obtain ⟨s1, k1, k2, k3, k4⟩ := do_move c1 ha (n := n) rfl (by omega) (k := 0) rfl hr
  have hr1 : s1.regs[0]? = some x := by rw [k4 0 (by omega)]; exact hr
  refine ⟨fun F ho K hK => pclean_fuel c2 hc (hs.then k1) hx k2 hr1 ho (by omega), fun y k F ho => ?_⟩
  obtain ⟨s2, f1, f2, f3, f4, f5⟩ := pclean_ok c2 hc (hs.then k1) hx k2 hr1 ho
  have hxn : s2.regs[n]? = some x := by rw [f4 n hnc, k3]
  refine ⟨fun hy => ?_, fun hy => ?_⟩
  · subst hy
    obtain ⟨s3, m1, m2, m3⟩ := no_jump c3 (s := s2) (by rw [l3]; exact f2) (n := 0) rfl f3
    obtain ⟨s4, n1, n2, n3, n4⟩ := do_move c4 (s := s3) (by rw [l4]; exact m2) (n := 0) rfl (by omega) (k := n) rfl (by rw [m3]; exact hxn)
    obtain ⟨s5, o1, o2, o3, o4⟩ := do_set c5 (s := s4) (by rw [l5]; exact n2) (n := n) rfl (by omega)
    rw [rdp_100] at o3
    obtain ⟨s6, q1, q2, q3⟩ := do_jump c6 (s := s5) (by rw [l6]; exact o2) (n := n) rfl o3 (by simp) (dst := cs.length) (by rw [c6, ← hu]; simp only [List.length_append, List.length_cons, List.length_nil]; omega)
    have := out_end ((((f1.then m1).then n1).then o1).then q1) (Nat.le_refl _) q2.1
    rw [show N + k + rn c + 4 = N + 1 + (rn c - 1) + k + 1 + 1 + 1 + 1 from by omega, this]
    congr 1
    exact reg_of (n := 0) rfl (by rw [q3, o4 0 (by omega)]; exact n3)
  · obtain ⟨s3, m1, m2, m3⟩ := do_jump c3 (s := s2) (by rw [l3]; exact f2) (n := 0) rfl f3 hy (dst := ([moveI (n : Int) 0] ++ behind c ++ [jumpI 0 4, moveI 0 n, setI n [49, 48, 48], jumpI n u] : List Ins).length) (by simp only [List.length_append, List.length_cons, List.length_nil]; omega)
    obtain ⟨s4, n1, n2, n3, n4⟩ := do_move c7 (s := s3) m2 (n := 0) rfl (by omega) (k := n) rfl (by rw [m3]; exact hxn)
    refine ⟨fun F' ho2 K hK => pclean_fuel c8 hp ((f1.then m1).then n1) hx (by rw [l8]; exact n2) n3 ho2 (by omega), fun z l F' ho2 => ?_⟩
    obtain ⟨s5, g1, g2, g3, g4, g5⟩ := pclean_ok c8 hp ((f1.then m1).then n1) hx (by rw [l8]; exact n2) n3 ho2
    obtain ⟨s6, o1, o2, o3, o4⟩ := do_set c9 (s := s5) (by rw [l9]; exact g2) (n := n) rfl (by omega)
    rw [rdp_100] at o3
    obtain ⟨s7, q1, q2, q3⟩ := do_jump c10 (s := s6) (by rw [l10]; exact o2) (n := n) rfl o3 (by simp) (dst := 0) (by rw [← hw]; omega)
    refine ⟨g5, s7, ?_, q2, by rw [q3, o4 0 (by omega)]; exact g3⟩
    rw [show N + k + rn c + 1 + l + rn p + 2 = N + 1 + (rn c - 1) + k + 1 + 1 + (rn p - 1) + l + 1 + 1 from by omega]
    exact (g1.then o1).then q1
theorem while_pos (c p : List Ins) : 0 < (whileL c p).length := by unfold whileL; simp
end Go.Proofs.YtmhoacnbmbhcjaaGreatDoor
