/- The universal program on the codes of programs, as it runs in memory; the chapter's examples. By an AI agent. -/
import Derived.Test.YtmhoacnbmbhcjaaGreatDoorPln
import Derived.Test.YtmhoacnbmbhcjaaGreatDoorUnv
import Derived.Test.YtmhoacnbmbhcjaaGreatDoorRunB
namespace Go.Proofs.YtmhoacnbmbhcjaaGreatDoor
open Go.RowKit Go.Maps Pl

theorem univL_allR : AllR univL := by
  have h : ((List.range 104).all fun k => match univL[k]? with | some x => right x (k : Int) (104 : Int) | none => true) = true := by kernel_rfl
  intro k x hx
  have hk : k < 104 := by have := (List.getElem?_eq_some_iff.1 hx).1; exact this
  have h2 := List.all_eq_true.1 h k (List.mem_range.2 hk)
  rw [hx] at h2
  exact h2
theorem univL_valid : PValid univL := (fits_valid univL_allR).2 ⟨by show (104 : Nat) ≤ 4000; decide, by
  have h : decide (trees univL ≤ 2000000) = true := by kernel_rfl
  exact of_decide_eq_true h⟩
/-- what the universal program returns where the program ends -/
theorem univ_ends {B : Prop} {ps : List Ins} {x : Tr} (hv : PValid ps) (hx : (tx x).length ≤ 2000000) (hz : (tx (.pair (lst (codeL ps)) x)).length ≤ 2000000) {n : Nat} {t : St} (h : Steps ps (first x) n t) (he : t.at_ = ps.length) (hB : ∀ m s, m ≤ n → Steps ps (first x) m s → Small B ps s) :
    ∃ k v, k ≤ 7 + n * (5 * ps.length + 700) ∧ Go B k (first (.pair (lst (codeL ps)) x)) v ∧ v.at_ = univL.length ∧ v.reg 0 = t.reg 0 := by
  obtain ⟨k, u, h1, _, h2, h3⟩ := sim_run (B := B) hv hx hz h hB
  obtain ⟨v, h4, h5, h6⟩ := sim_end (B := B) he h3
  exact ⟨k + 2, v, by omega, h2.trans h4, h5, h6⟩
theorem go_false {n : Nat} {s t : St} (h : Go False n s t) : Steps univL s n t := by
  rcases h with h | ⟨h, _⟩
  · exact h
  · exact h.elim
theorem small_of {ps : List Ins} {s : St} (h1 : (tx (lst (codeL ps))).length ≤ 200000) (h2 : totT s.regs ≤ 200000) : Small False ps s := fun _ => ⟨h1, h2⟩
theorem tot_first (x : Tr) : totT (first x).regs = (tx x).length + 31 := by
  show ((x :: List.replicate 31 Tr.nil).map fun t => (tx t).length).sum = _
  simp [tx]
def x10100 : Tr := .pair .nil (.pair .nil .nil)
def x100 : Tr := .pair .nil .nil
theorem code_tail : tx (lst (codeL pTail)) = [49, 49, 49, 48, 49, 48, 49, 48, 49, 48, 48, 49, 48, 48, 48] := by
  rw [tx_code pTail_valid.2.2]; decide
theorem univ_run1 : ∃ n : Nat, runRes univL 10000 (rd [49, 49, 49, 49, 48, 49, 48, 49, 48, 49, 48, 48, 49, 48, 48, 48, 49, 48, 49, 48, 48]) = .tuple #[.string (S [49, 48, 48]), .int .i64 (n : Int), .int .i64 0] := by
  have e : tx (.pair (lst (codeL pTail)) x10100) = [49, 49, 49, 49, 48, 49, 48, 49, 48, 49, 48, 48, 49, 48, 48, 48, 49, 48, 49, 48, 48] := by
    show 49 :: (tx (lst (codeL pTail)) ++ tx x10100) = _
    rw [code_tail]; decide
  rw [← e, rd_tx]
  have hc : (tx (lst (codeL pTail))).length ≤ 200000 := by rw [code_tail]; decide
  have st : Steps pTail (first x10100) 1 ((first x10100).put 0 x100) := .succ .zero (Nat.zero_ne_one) rfl
  obtain ⟨k, v, h1, h2, h3, h4⟩ := univ_ends (B := False) (ps := pTail) (x := x10100) pTail_valid (by decide) (by rw [e]; decide) st rfl (fun m s hm hs => by
    refine small_of hc ?_
    have hm2 : m = 0 ∨ m = 1 := by omega
    rcases hm2 with rfl | rfl
    · rw [hs.det .zero, tot_first]; decide
    · rw [hs.det st]; decide)
  refine ⟨k, ?_⟩
  rw [out_res, out_end (go_false h2) (by simp [pTail] at h1; omega) h3, h4]
  rfl
theorem univ_run2 : ∃ n : Nat, runRes univL 10000 (rd [49, 48, 49, 48, 49, 48, 48]) = .tuple #[.string (S [49, 48, 49, 48, 48]), .int .i64 (n : Int), .int .i64 0] := by
  have e : tx (.pair (lst (codeL [])) x10100) = [49, 48, 49, 48, 49, 48, 48] := by decide
  rw [← e, rd_tx]
  obtain ⟨k, v, h1, h2, h3, h4⟩ := univ_ends (B := False) (ps := []) (x := x10100) pNil_valid (by decide) (by rw [e]; decide) .zero rfl (fun m s hm hs => by
    obtain rfl : m = 0 := by omega
    rw [hs.det .zero]
    exact small_of (by decide) (by rw [tot_first]; decide))
  refine ⟨k, ?_⟩
  rw [out_res, out_end (go_false h2) (by simp at h1; omega) h3, h4]
  rfl
theorem own_argp {w : World} {g cap B : Nat} (h : w.ownsRow B 64 5 (.slice (some ⟨g, 0, none⟩) 104 cap) 104 (progV univL)) : ArgP w (.slice (some ⟨g, 0, none⟩) 104 cap) univL := (own_prog (ps := univL) h).2.1
set_option maxHeartbeats 3200000 in
set_option maxRecDepth 100000 in
theorem awake6_any (w : World) (hE : TabE w) : Calls Tryz.prog 49 #[] w fun e w' => e = .returned (.bool true) ∧ Below w.heap.size w w' := by
  obtain ⟨n1, r1⟩ := univ_run1
  obtain ⟨n2, r2⟩ := univ_run2
  have H1 := Lib.hid (fun W v h => Run_yes W v univL (S [49, 49, 49, 49, 48, 49, 48, 49, 48, 49, 48, 48, 49, 48, 48, 48, 49, 48, 49, 48, 48]) 10000 h univL_valid (by decide) (by decide))
  have H2 := Lib.hid (fun W v h => Run_yes W v univL (S [49, 48, 49, 48, 49, 48, 48]) 10000 h univL_valid (by decide) (by decide))
  rw [S_list, r1] at H1
  rw [S_list, r2] at H2
  have HC := Lib.hid (fun W v (h : ArgP W v pTail) => Code_arg W v pTail h pTail_valid)
  rw [show enc (codes pTail) = [49, 49, 49, 48, 49, 48, 49, 48, 49, 48, 48, 49, 48, 48, 48] from by decide] at HC
  have HU := Lib.hid (Universal_any w hE)
  clear r1 r2 hE
  go_enter Tryz.func49, Tryz.ntmps49
  go_wp2_with fail
  refine HU.out.mono ?_
  rintro e w1 ⟨g, cap, rfl, ho, hb⟩
  have HO := Lib.hid (own_argp ho); have HB1 := Lib.hid hb
  clear ho hb
  go_wp2_with fail
  refine (HC.out _ _ (lit_prog w1 pTail (by decide))).mono ?_
  rintro e w2 ⟨rfl, h2⟩
  have HD2 := Lib.hid (bstep (alloc_belowW w1 _) h2)
  clear h2
  have HA2 := Lib.hid (HO.out.below HD2.out); have HB2 := Lib.hid (bstep HB1.out HD2.out)
  have HS : Hid (S [49, 49, 49, 49, 48, 49, 48, 49, 48, 49, 48, 48, 49, 48, 48, 48, 49, 48, 49, 48, 48] = (⟨#[49]⟩ : ByteArray) ++ S [49, 49, 49, 48, 49, 48, 49, 48, 49, 48, 48, 49, 48, 48, 48] ++ ⟨#[49, 48, 49, 48, 48]⟩) := Lib.hid (by rw [S_app_mk [49]]; kernel_rfl)
  clear HD2 HB1
  go_wp2_with fail
  have hc := H1.out _ _ HA2.out
  rw [HS.out] at hc
  refine hc.mono ?_
  rintro e w3 ⟨rfl, h3⟩
  have HA3 := Lib.hid (HA2.out.below h3); have HB3 := Lib.hid (bstep HB2.out h3)
  clear h3 hc
  go_wp2_with fail
  refine (H2.out _ _ HA3.out).mono ?_
  rintro e w4 ⟨rfl, h4⟩
  have HB4 := Lib.hid (bstep HB3.out h4)
  clear h4
  go_wp2_with fail
  go_ret
  exact ⟨rfl, HB4.out⟩
end Go.Proofs.YtmhoacnbmbhcjaaGreatDoor
