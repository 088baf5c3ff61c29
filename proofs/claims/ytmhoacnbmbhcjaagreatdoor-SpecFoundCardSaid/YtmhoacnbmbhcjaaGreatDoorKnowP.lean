/- The laws of layer 7 that run programs: what they share. By an AI agent. -/
import Derived.Test.YtmhoacnbmbhcjaaGreatDoorKnowA
import Derived.Test.YtmhoacnbmbhcjaaGreatDoorKnowO
import Derived.Test.YtmhoacnbmbhcjaaGreatDoorRMc
import Derived.Test.YtmhoacnbmbhcjaaGreatDoorREq
namespace Go.Proofs.YtmhoacnbmbhcjaaGreatDoor
open Go.RowKit Pl

theorem knowDue_cases (q : List Ins) : knowDue q = 0 ∨ knowDue q = 1 ∨ knowDue q = 3 := by
  unfold knowDue
  split
  · split
    · exact .inl rfl
    · exact .inr (.inr rfl)
  · exact .inr (.inl rfl)
/-- what the reference's Run returns, by how the run ends -/
def OutPost (w : World) (o : Out) (e : Ending) (w' : World) : Prop :=
  Below w.heap.size w w' ∧ match o with
    | .ok z n => ∃ x, e = .returned (.tuple #[x, .int .i64 (n : Int), .int .i64 0]) ∧ NodeW 42 w' z x
    | .size => e = .returned (.tuple #[.pointer none, .int .i64 0, .int .i64 3])
    | .fuel => e = .returned (.tuple #[.pointer none, .int .i64 0, .int .i64 7])
theorem argp_lt7 {w : World} {v : Value} {ps : List Ins} (h : ArgP w v ps) : ∀ k, 0 < ps.length → v.ownBlock = some k → k < w.heap.size := by
  intro k h0 hk
  rcases h with ⟨h, _⟩ | ⟨_, b', off, cap, rfl, hc⟩
  · rw [h] at h0; simp at h0
  · cases hk; exact hc.1
theorem rRun_out (w : World) (m C K : Nat) (v x : Value) (ps : List Ins) (t : Tr) (o : Out) (hL : RL w m C v ps) (hA : ArgP w v ps) (hv : PValid ps) (hn : NodeW 42 w t x) (ht : (tx t).length ≤ 2000000) (hk : K ≤ 10000000) (ho : out ps K (first t) = o) :
    Calls Tryz.prog 36 #[.pointer (some ⟨m, 0, none⟩), x, .int .i64 (K : Int)] w (OutPost w o) := by
  subst ho
  refine (rRun_any w m C K v x ps t hL (TagB.lt hL.tagC) (argp_lt7 hA) hv hn ht hk).mono ?_
  rintro e w' ⟨hb, hm⟩
  refine ⟨hb, ?_⟩
  unfold out
  cases hr : runTo ps K (first t) with
  | none => rw [hr] at hm; exact hm
  | some r =>
    obtain ⟨st, n⟩ := r
    rw [hr] at hm
    rcases hm with ⟨he, y, h1, h2⟩ | ⟨he, h1⟩
    · simp only [if_pos he]; exact ⟨y, h1, h2⟩
    · simp only [if_neg he]; exact h1
set_option maxHeartbeats 1600000 in
set_option maxRecDepth 100000 in
/-- the code of a program, as nodes -/
theorem lCoded_yes (w : World) (v : Value) (ps : List Ins) (h : ArgP w v ps) (hv : PValid ps) (hc : CodedP ps) :
    Calls Tryz.prog 29 #[v] w fun e w' => ∃ x, e = .returned (.tuple #[x, .bool true]) ∧ NodeW 42 w' (lst (codeL ps)) x ∧ Below w.heap.size w w' := by
  have HV := Lib.hid (PV_arg w v ps true h (by have := hv.1; omega) (fun x hx => by have := pvalid_tree hv hx; omega) (by simp [hv]))
  have HC := Lib.hid (fun W h => Coded_any W v ps h (by have := hv.1; omega) (fun x hx => by have := pvalid_tree hv hx; omega) hv.2.2)
  have HA := Lib.hid h
  have hvl : vld (S (enc (codes ps))).data.toList = true := by rw [S_list]; exact code_vld hv hc.2
  have hrd : rd (S (enc (codes ps))).data.toList = lst (codeL ps) := by rw [S_list, ← tx_code hv.2.2]; exact rd_tx _
  have HR := Lib.hid (fun W => rRead_any (S (enc (codes ps))) W hvl)
  rw [hrd] at HR
  have HCD := Lib.hid hc
  have HUN := Lib.hid (show ∀ W e W', CodPost W ps e W' → Below W.heap.size W W' ∧ e = .returned (.tuple #[.string (S (enc (codes ps))), .bool true]) from fun W e W' h => by
    rcases h with ⟨h1, ⟨_, h2⟩ | ⟨h2, _⟩⟩
    · exact ⟨h1, h2⟩
    · exact absurd hc h2)
  obtain ⟨a, c, rfl⟩ := h.form
  clear h hv hc hvl hrd
  generalize ps.length = n at *
  generalize S (enc (codes ps)) = y at *
  go_enter Tryz.func29, Tryz.ntmps29
  go_wp2_with fail
  refine HV.out.mono ?_
  rintro e w1 ⟨rfl, h1⟩
  have HB1 := Lib.hid h1
  clear h1
  go_wp2_with fail
  refine (HC.out _ (HA.out.below HB1.out)).mono ?_
  intro e w2 h
  obtain ⟨h2, rfl⟩ := HUN.out _ _ _ h
  have HB2 := Lib.hid (bstep HB1.out h2)
  clear h h2
  go_wp2_with fail
  refine (HR.out _).mono ?_
  rintro e w3 ⟨v3, rfl, h3, hb⟩
  obtain ⟨V3, rfl⟩ := h3.one
  have HB3 := Lib.hid (bstep HB2.out hb); have HN3 := Lib.hid h3
  clear hb h3
  go_wp2_with fail
  go_ret2
  exact ⟨_, rfl, HN3.out, HB3.out⟩
set_option maxHeartbeats 1600000 in
set_option maxRecDepth 100000 in
theorem follows_yes (w : World) (vp vq x y : Value) (p q : List Ins) (t u : Tr) (m : Nat) (hp : ArgP w vp p) (hq : ArgP w vq q) (pv : PValid p) (qv : PValid q) (hx : NodeW 42 w t x) (hy : NodeW 42 w u y) (ht : (tx t).length ≤ 2000000) (hu : (tx u).length ≤ 2000000) (hm : m ≤ 100000)
    (ho : out p (20000 + m) (first t) = (out q 20000 (first u)).later m) :
    Calls Tryz.prog 32 #[vp, x, vq, y, .int .i64 (m : Int)] w fun e w' => e = .returned (.bool true) ∧ Below w.heap.size w w' := by
  have HLQ := Lib.hid (fun W (h : ArgP W vq q) => Load_new W vq q h qv)
  have HLP := Lib.hid (fun W (h : ArgP W vp p) => Load_new W vp p h pv)
  have HP := Lib.hid hp; have HQ := Lib.hid hq; have HX := Lib.hid hx; have HY := Lib.hid hy
  have HRQ := Lib.hid (fun W a b (hL : RL W a b vq q) (h : ArgP W vq q) (hn : NodeW 42 W u y) => rRun_out W a b 20000 vq y q u _ hL h qv hn hu (by omega) rfl)
  have HRP := Lib.hid (fun W a b (hL : RL W a b vp p) (h : ArgP W vp p) (hn : NodeW 42 W t x) => rRun_out W a b (20000 + m) vp x p t _ hL h pv hn ht (by omega) ho)
  have HSZ := Lib.hid (fun z n (h : out q 20000 (first u) = .ok z n) => show (tx z).length ≤ 2000000 by
    obtain ⟨s, h1, _, _, h4⟩ := out_ok h
    rw [← h4]
    exact St.reg_le (h1.ok qv (first_ok _ hu)) 0)
  have HN := Lib.hid (fun z n (h : out q 20000 (first u) = .ok z n) => show n ≤ 20000 by
    obtain ⟨s, _, h2, _, _⟩ := out_ok h
    exact h2)
  obtain ⟨pa, pc, rfl⟩ := hp.form
  obtain ⟨qa, qc, rfl⟩ := hq.form
  obtain ⟨X, rfl⟩ := hx.one
  obtain ⟨Y, rfl⟩ := hy.one
  clear hp hq pv qv hx hy ht hu ho
  generalize out q 20000 (first u) = o at *
  generalize p.length = n1 at *
  generalize q.length = n2 at *
  go_enter Tryz.func32, Tryz.ntmps32
  go_wp2_with fail
  refine (HLQ.out _ HQ.out).mono ?_
  rintro e w1 ⟨m1, C1, rfl, hL, hb, hC⟩
  have HB1 := Lib.hid hb; have HL1 := Lib.hid hL
  clear hb hL hC
  go_wp2_with fail
  refine (HRQ.out _ _ _ HL1.out (HQ.out.below HB1.out) (NodeW.below HY.out HB1.out)).mono ?_
  rintro e w2 ⟨hb, hm1⟩
  have HB2 := Lib.hid (bstep HB1.out hb)
  clear hb
  cases o with
  | ok z n =>
    obtain ⟨z2, rfl, hz⟩ := hm1
    obtain ⟨Z, rfl⟩ := hz.one
    have HZ := Lib.hid hz
    have hn2 := HN.out z n rfl
    have hsz := HSZ.out z n rfl
    have HEQ := Lib.hid (fun W X Z (h1 : NodeW 42 W z X) (h2 : NodeW 42 W z Z) => rEqual_same W z X Z h1 h2 hsz)
    clear hz hsz
    go_wp2_with fail
    refine (HLP.out _ (HP.out.below HB2.out)).mono ?_
    rintro e w3 ⟨m3, C3, rfl, hL, hb, hC⟩
    have HB3 := Lib.hid (bstep HB2.out hb); have HL3 := Lib.hid hL
    have HZ3 := Lib.hid (NodeW.below HZ.out hb)
    clear hb hL hC
    have hw : wrap64 (20000 + (m : Int)) = ((20000 + m : Nat) : Int) := by unfold wrap64; omega
    go_wp2_with fail
    first | rw [hw] | skip
    refine (HRP.out _ _ _ HL3.out (HP.out.below HB3.out) (NodeW.below HX.out HB3.out)).mono ?_
    rintro e w4 ⟨hb, y4, rfl, hn4⟩
    obtain ⟨Z4, rfl⟩ := hn4.one
    have HB4 := Lib.hid (bstep HB3.out hb)
    have HZ4 := Lib.hid (NodeW.below HZ3.out hb); have HN4 := Lib.hid hn4
    clear hb hn4 hw
    go_wp2_with fail
    refine (HEQ.out _ _ _ HZ4.out HN4.out).mono ?_
    rintro e w5 ⟨rfl, hb⟩
    have HB5 := Lib.hid (bstep HB4.out hb)
    clear hb
    go_wp2_with fail
    go_ret
    exact ⟨rfl, HB5.out⟩
  | size =>
    obtain rfl := hm1
    go_wp2_with fail
    refine (HLP.out _ (HP.out.below HB2.out)).mono ?_
    rintro e w3 ⟨m3, C3, rfl, hL, hb, hC⟩
    have HB3 := Lib.hid (bstep HB2.out hb); have HL3 := Lib.hid hL
    clear hb hL hC
    have hw : wrap64 (20000 + (m : Int)) = ((20000 + m : Nat) : Int) := by unfold wrap64; omega
    go_wp2_with fail
    first | rw [hw] | skip
    refine (HRP.out _ _ _ HL3.out (HP.out.below HB3.out) (NodeW.below HX.out HB3.out)).mono ?_
    rintro e w4 ⟨hb, hm4⟩
    obtain rfl := hm4
    have HB4 := Lib.hid (bstep HB3.out hb)
    clear hb hw
    go_wp2_with fail
    go_ret
    exact ⟨rfl, HB4.out⟩
  | fuel =>
    obtain rfl := hm1
    go_wp2_with fail
    refine (HLP.out _ (HP.out.below HB2.out)).mono ?_
    rintro e w3 ⟨m3, C3, rfl, hL, hb, hC⟩
    have HB3 := Lib.hid (bstep HB2.out hb); have HL3 := Lib.hid hL
    clear hb hL hC
    have hw : wrap64 (20000 + (m : Int)) = ((20000 + m : Nat) : Int) := by unfold wrap64; omega
    go_wp2_with fail
    first | rw [hw] | skip
    refine (HRP.out _ _ _ HL3.out (HP.out.below HB3.out) (NodeW.below HX.out HB3.out)).mono ?_
    rintro e w4 ⟨hb, hm4⟩
    obtain rfl := hm4
    have HB4 := Lib.hid (bstep HB3.out hb)
    clear hb hw
    go_wp2_with fail
    go_ret
    exact ⟨rfl, HB4.out⟩
set_option maxHeartbeats 800000 in
set_option maxRecDepth 100000 in
theorem Self_own (w : World) : Calls Tryz.prog 26 #[] w fun e w' => ∃ v, e = .returned v ∧ OwnP w' w.heap.size v (knowL pHead7) ∧ Below w.heap.size w w' := by
  have K := Lib.hid (fun W v h => Know_own W v pHead7 h (by simp [pHead7]) (by simp [pHead7, headI]))
  rw [knowDue_ok pHead7_valid knows_head] at K
  go_enter Tryz.func26, Tryz.ntmps26
  go_wp2_with fail
  refine (bhead_is _ _ _).mono ?_
  rintro e w1 ⟨rfl, h1⟩
  have HB1 := Lib.hid (h1.alloc h1.size (.cells (progV pHead7).toArray 64))
  clear h1
  go_wp2_with fail
  refine (K.out _ _ (lit_prog w1 pHead7 (by decide))).mono ?_
  rintro e w2 ⟨h2, v2, rfl, ho2⟩
  have HB2 := Lib.hid (bstep HB1.out h2)
  have HO2 : Hid (OwnP w2 w.heap.size v2 (knowL pHead7)) := Lib.hid (own_lower ho2 HB1.out.size)
  clear ho2 h2
  go_wp2_with fail
  go_ret
  exact ⟨_, rfl, HO2.out, HB2.out⟩
set_option maxHeartbeats 800000 in
set_option maxRecDepth 100000 in
theorem rSelf_any (w : World) : Calls Tryz.prog 27 #[] w fun e w' => ∃ v, e = .returned v ∧ ArgP w' v (knowL pHead7) ∧ Below w.heap.size w w' := by
  have K := Lib.hid (fun W v h => rKnow_any W v pHead7 h (by simp [pHead7]) (by simp [pHead7, headI]) pHead7_valid.2.2)
  go_enter Tryz.func27, Tryz.ntmps27
  go_wp2_with fail
  refine (r7head_is _ _ _).mono ?_
  rintro e w1 ⟨rfl, h1⟩
  have HB1 := Lib.hid (h1.alloc h1.size (.cells (progV pHead7).toArray 64))
  clear h1
  go_wp2_with fail
  refine (K.out _ _ (lit_prog w1 pHead7 (by decide))).mono ?_
  rintro e w2 ⟨h2, ⟨_, v2, rfl, ha2⟩ | ⟨hn, _⟩⟩
  · have HB2 := Lib.hid (bstep HB1.out h2)
    have HA2 := Lib.hid ha2
    clear ha2 h2
    go_wp2_with fail
    go_ret
    exact ⟨_, rfl, HA2.out, HB2.out⟩
  · exact absurd knows_head hn
end Go.Proofs.YtmhoacnbmbhcjaaGreatDoor
