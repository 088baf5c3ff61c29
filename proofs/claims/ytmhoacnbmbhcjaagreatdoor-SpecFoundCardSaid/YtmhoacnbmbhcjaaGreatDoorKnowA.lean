/- Package know: Know. By an AI agent. -/
import Derived.Test.YtmhoacnbmbhcjaaGreatDoorRecog
import Derived.Test.YtmhoacnbmbhcjaaGreatDoorCdr
import Derived.Test.YtmhoacnbmbhcjaaGreatDoorPly
import Derived.Test.YtmhoacnbmbhcjaaGreatDoorSameP
namespace Go.Proofs.YtmhoacnbmbhcjaaGreatDoor
open Go.RowKit Pl

set_option maxHeartbeats 1600000 in
set_option maxRecDepth 100000 in
theorem Know_form (w : World) (v : Value) (q : List Ins) (h : ArgP w v q) (hl : q.length ≤ 281474976710656) (hz : ∀ x ∈ q, x.tree.length ≤ 281474976710656) (hn : ¬ PValid q) :
    Calls Tryz.prog 20 #[v] w (ROwn w (knowDue q) (knowL q)) := by
  have HC := Lib.hid (CV_arg w v q false h hl hz (by simp [hn]))
  rw [knowDue_form hn]
  clear h hl hz hn
  go_enter Tryz.func20, Tryz.ntmps20
  go_wp2_with fail
  refine HC.out.mono ?_
  rintro e w1 ⟨rfl, h1⟩
  have HB := Lib.hid h1
  clear h1
  go_wp2_with fail
  go_ret2
  exact rown_no (by decide) HB.out
set_option maxHeartbeats 3200000 in
set_option maxRecDepth 100000 in
theorem Know_valid (w : World) (v : Value) (q : List Ins) (h : ArgP w v q) (hq : PValid q) :
    Calls Tryz.prog 20 #[v] w (ROwn w (knowDue q) (knowL q)) := by
  have hl := hq.1
  have HC := Lib.hid (CV_arg w v q true h (by omega) (fun x hx => by have := pvalid_tree hq hx; omega) (by simp [hq]))
  have HTR := Lib.hid (rL_tree (q := q) (n := 2000000) (by decide) (fun x hx => pvalid_tree hq hx))
  have HLEN : Hid ((rL q).length * 48 ≤ 140737488355328) := Lib.hid (by rw [rL_len]; omega)
  have HVAL := Lib.hid (fits_valid (allR_r hq.2.2))
  have HVL2 := Lib.hid (fun (h1 : PValid (rL q)) (h2 : (yL q).length ≤ 2000000) => fits_valid (allR_spec h1 (yl_vld h1 h2)))
  have HD0 := Lib.hid (knowDue_ok hq); have HD3 := Lib.hid (knowDue_size hq)
  have HAR := Lib.hid h
  have HCP := Lib.hid (fun W u (h1 : PValid (rL q)) (h : ArgP W u (rL q)) => PCode_arg W u (rL q) h h1)
  have HCK := Lib.hid (fun W u (h1 : PValid (knowL q)) (h : ArgP W u (knowL q)) => PCode_arg W u (knowL q) h h1)
  have HSP := Lib.hid (fun W u (h1 : PValid (rL q)) (h2 : (yL q).length ≤ 2000000) (h : ArgP W u (rL q)) => Spec_own W u (rL q) (yL q) h h1 (yl_vld h1 h2))
  have HSD0 := Lib.hid (fun (h1 : PValid (rL q)) (h2 : (yL q).length ≤ 2000000) (h3 : FitsP (knowL q)) => specDue_yes h1 (yl_vld h1 h2) h3)
  have HSD3 := Lib.hid (fun (h1 : PValid (rL q)) (h2 : (yL q).length ≤ 2000000) (h3 : ¬ FitsP (knowL q)) => specDue_size h1 (yl_vld h1 h2) h3)
  obtain ⟨va, vc, rfl⟩ := h.form
  clear h hq hl
  generalize q.length = n at *
  go_enter Tryz.func20, Tryz.ntmps20
  go_wp2_with fail
  refine HC.out.mono ?_
  rintro e w1 ⟨rfl, h1⟩
  have HB1 := Lib.hid h1
  clear h1
  go_wp2_with fail
  refine (recog_any _).mono ?_
  rintro e w2 ⟨u2, rfl, ho2, h2⟩
  have HB2 := Lib.hid (bstep HB1.out h2)
  have ha2 : ArgP w2 u2 recL := (own_prog (ps := recL) ho2).2.1
  have HA2 := Lib.hid ha2
  obtain ⟨a2, c2, rfl⟩ : ∃ a c, u2 = .slice a 16 c := ha2.form
  have HL2 := Lib.hid (lit_pieces w2 [.slice a2 16 c2, .slice va n vc] [recL, q] ⟨HA2.out, HAR.out.below HB2.out, trivial⟩)
  have HB2a := Lib.hid (HB2.out.alloc HB2.out.size (.cells #[.slice a2 16 c2, .slice va n vc] 23))
  have HJ := Lib.hid (join_any _ w2.heap.size 0 2 [recL, q] (rL q) (by simp [rL]) HL2.out (by simp) HLEN.out (fun x hx => by have := HTR.out x hx; omega))
  clear ho2 h2 ha2
  go_wp2_with fail
  refine HJ.out.mono ?_
  rintro e w3 ⟨h3, hJ⟩
  have HB3 := Lib.hid (bstep HB2a.out h3)
  clear h3
  rcases hJ with ⟨hv3, v3, rfl, hA3⟩ | ⟨hn, rfl⟩
  · have HV3 := Lib.hid hv3; have HA3 := Lib.hid hA3
    obtain ⟨a3, c3, rfl⟩ := hA3.form
    clear hv3 hA3
    generalize (rL q).length = n3 at *
    go_wp2_with fail
    refine (HCP.out _ _ HV3.out HA3.out).mono ?_
    rintro e w4 ⟨hC, h4⟩
    have HB4 := Lib.hid (bstep HB3.out h4)
    have HA4 := Lib.hid (HA3.out.below h4)
    clear h4
    rcases hC with ⟨hle, rfl⟩ | ⟨hle, rfl⟩
    · have HY : Hid ((yL q).length ≤ 2000000) := Lib.hid hle
      clear hle
      rw [show enc (codes (rL q)) = yL q from rfl]
      generalize hy : yL q = y at *
      have HYE := Lib.hid hy
      clear hy
      have HS := Lib.hid (HSP.out _ _ HV3.out HY.out HA4.out)
      go_wp2_with fail
      refine HS.out.mono ?_
      rintro e w5 ⟨h5, hS⟩
      have HB5 := Lib.hid (bstep HB4.out h5)
      have HSZ : Hid (w.heap.size ≤ w4.heap.size) := Lib.hid HB4.out.size
      clear h5
      rcases hS with ⟨hd, v5, rfl, hO5⟩ | ⟨hd, rfl⟩
      · have HK : Hid (FitsP (knowL q)) := Lib.hid (by
          by_cases h9 : FitsP (knowL q)
          · exact h9
          · rw [HSD3.out HV3.out HY.out h9] at hd; exact absurd hd (by decide))
        have hO5' : OwnP w5 w4.heap.size v5 (knowL q) := by unfold knowL; rw [HYE.out]; exact hO5
        have HO5 : Hid (OwnP w5 w.heap.size v5 (knowL q)) := Lib.hid (own_lower hO5' HSZ.out)
        have HVK : Hid (PValid (knowL q)) := Lib.hid (by
          have h8 := HVL2.out HV3.out HY.out
          have h9 := HK.out
          unfold knowL at h9 ⊢
          rw [HYE.out] at h9 ⊢
          exact h8.2 h9)
        have HA5 := Lib.hid HO5.out.arg
        obtain ⟨a5, c5, rfl⟩ := hO5'.arg.form
        clear hd hO5 hO5'
        generalize (knowL q).length = n5 at *
        go_wp2_with fail
        refine (HCK.out _ _ HVK.out HA5.out).mono ?_
        rintro e w6 ⟨hC, h6⟩
        have HB6 := Lib.hid (bstep HB5.out h6)
        have HO6 := Lib.hid (HO5.out.below h6)
        clear h6
        rcases hC with ⟨hle, rfl⟩ | ⟨hle, rfl⟩
        · have HD : Hid (knowDue q = 0) := Lib.hid (HD0.out ⟨⟨HVAL.out.1 HV3.out, by show (yL q).length ≤ _; rw [HYE.out]; exact HY.out⟩, HK.out, hle⟩)
          generalize enc (codes (knowL q)) = y6 at *
          clear hle
          go_wp2_with fail
          go_ret2
          rw [HD.out]
          exact rown_yes HB6.out HO6.out
        · have HD : Hid (knowDue q = 3) := Lib.hid (HD3.out (fun h9 => by have := h9.2.2; omega))
          clear hle
          go_wp2_with fail
          go_ret2
          rw [HD.out]
          exact rown_no (by decide) HB6.out
      · have hd3 : specDue (rL q) y = 3 := by
          by_cases h9 : FitsP (knowL q)
          · exact absurd (HSD0.out HV3.out HY.out h9) hd
          · exact HSD3.out HV3.out HY.out h9
        have HD : Hid (knowDue q = 3) := Lib.hid (HD3.out (fun h9 => hd (HSD0.out HV3.out HY.out h9.2.1)))
        rw [hd3]
        clear hd hd3
        go_wp2_with fail
        go_ret2
        rw [HD.out]
        exact rown_no (by decide) HB5.out
    · have HD : Hid (knowDue q = 3) := Lib.hid (HD3.out (fun h9 => by have := h9.1.2; omega))
      clear hle
      go_wp2_with fail
      go_ret2
      rw [HD.out]
      exact rown_no (by decide) HB4.out
  · have HD : Hid (knowDue q = 3) := Lib.hid (HD3.out (fun h9 => hn (HVAL.out.2 h9.1.1)))
    clear hn
    go_wp2_with fail
    go_ret2
    rw [HD.out]
    exact rown_no (by decide) HB3.out
theorem Know_own (w : World) (v : Value) (q : List Ins) (h : ArgP w v q) (hl : q.length ≤ 281474976710656) (hz : ∀ x ∈ q, x.tree.length ≤ 281474976710656) :
    Calls Tryz.prog 20 #[v] w (ROwn w (knowDue q) (knowL q)) := by
  by_cases hq : PValid q
  · exact Know_valid w v q h hq
  · exact Know_form w v q h hl hz hq
end Go.Proofs.YtmhoacnbmbhcjaaGreatDoor

namespace Go.Proofs.YtmhoacnbmbhcjaaGreatDoor
open Go.RowKit Pl

set_option maxHeartbeats 800000 in
set_option maxRecDepth 100000 in
theorem r7set_is (a : Int) (s : ByteArray) (w : World) : Calls Tryz.prog 70 #[.int .i64 a, .string s] w fun e w' => e = .returned (.agg #[.int .i64 0, .int .i64 a, .int .i64 0, .int .i64 0, .string s]) ∧ Below w.heap.size w w' := by
  go_enter Tryz.func70, Tryz.ntmps70
  go_wp2
  exact bodyPost_ret (v := .agg #[.int .i64 0, .int .i64 a, .int .i64 0, .int .i64 0, .string s]) (by simp [results, Tryz.f70, go_sem]) rfl ⟨rfl, alloc_below _ _⟩
set_option maxHeartbeats 800000 in
set_option maxRecDepth 100000 in
theorem r7cons_is (a b c : Int) (w : World) : Calls Tryz.prog 71 #[.int .i64 a, .int .i64 b, .int .i64 c] w fun e w' => e = .returned (.agg #[.int .i64 2, .int .i64 a, .int .i64 b, .int .i64 c, .string ⟨#[]⟩]) ∧ Below w.heap.size w w' := by
  go_enter Tryz.func71, Tryz.ntmps71
  go_wp2
  exact bodyPost_ret (v := .agg #[.int .i64 2, .int .i64 a, .int .i64 b, .int .i64 c, .string ⟨#[]⟩]) (by simp [results, Tryz.f71, go_sem]) rfl ⟨rfl, alloc_below _ _⟩
set_option maxHeartbeats 800000 in
set_option maxRecDepth 100000 in
theorem r7head_is (a b : Int) (w : World) : Calls Tryz.prog 69 #[.int .i64 a, .int .i64 b] w fun e w' => e = .returned (.agg #[.int .i64 3, .int .i64 a, .int .i64 b, .int .i64 0, .string ⟨#[]⟩]) ∧ Below w.heap.size w w' := by
  go_enter Tryz.func69, Tryz.ntmps69
  go_wp2
  exact bodyPost_ret (v := .agg #[.int .i64 3, .int .i64 a, .int .i64 b, .int .i64 0, .string ⟨#[]⟩]) (by simp [results, Tryz.f69, go_sem]) rfl ⟨rfl, alloc_below _ _⟩
set_option maxHeartbeats 800000 in
set_option maxRecDepth 100000 in
theorem r7tail_is (a b : Int) (w : World) : Calls Tryz.prog 68 #[.int .i64 a, .int .i64 b] w fun e w' => e = .returned (.agg #[.int .i64 4, .int .i64 a, .int .i64 b, .int .i64 0, .string ⟨#[]⟩]) ∧ Below w.heap.size w w' := by
  go_enter Tryz.func68, Tryz.ntmps68
  go_wp2
  exact bodyPost_ret (v := .agg #[.int .i64 4, .int .i64 a, .int .i64 b, .int .i64 0, .string ⟨#[]⟩]) (by simp [results, Tryz.f68, go_sem]) rfl ⟨rfl, alloc_below _ _⟩
set_option maxHeartbeats 3200000 in
set_option maxRecDepth 100000 in
theorem Behind_any (w : World) (v : Value) (q : List Ins) (h : ArgP w v q) (hl : (16 + q.length) * 48 ≤ 140737488355328) :
    Calls Tryz.prog 118 #[v] w fun e w' => ∃ v', e = .returned v' ∧ ArgP w' v' (rL q) ∧ Below w.heap.size w w' := by
  have HAR := Lib.hid h; have HLQ := Lib.hid hl
  obtain ⟨va, vc, rfl⟩ := h.form
  clear h hl
  have HB0 := Lib.hid (Below.refl w.heap.size w)
  generalize hqn : q.length = n at *
  have HQN := Lib.hid hqn
  clear hqn
  go_enter Tryz.func118, Tryz.ntmps118
  go_wp2_with fail
  refine (r7head_is _ _ _).mono ?_
  rintro e w1 ⟨rfl, h1⟩
  have HB1 := Lib.hid (bstep HB0.out h1)
  clear h1
  go_wp2_with fail
  refine (r7tail_is _ _ _).mono ?_
  rintro e w2 ⟨rfl, h2⟩
  have HB2 := Lib.hid (bstep HB1.out h2)
  clear h2
  go_wp2_with fail
  refine (r7set_is _ _ _).mono ?_
  rintro e w3 ⟨rfl, h3⟩
  have HB3 := Lib.hid (bstep HB2.out h3)
  clear h3
  go_wp2_with fail
  refine (r7cons_is _ _ _ _).mono ?_
  rintro e w4 ⟨rfl, h4⟩
  have HB4 := Lib.hid (bstep HB3.out h4)
  clear h4
  go_wp2_with fail
  refine (r7cons_is _ _ _ _).mono ?_
  rintro e w5 ⟨rfl, h5⟩
  have HB5 := Lib.hid (bstep HB4.out h5)
  clear h5
  go_wp2_with fail
  refine (r7set_is _ _ _).mono ?_
  rintro e w6 ⟨rfl, h6⟩
  have HB6 := Lib.hid (bstep HB5.out h6)
  clear h6
  go_wp2_with fail
  refine (r7cons_is _ _ _ _).mono ?_
  rintro e w7 ⟨rfl, h7⟩
  have HB7 := Lib.hid (bstep HB6.out h7)
  clear h7
  go_wp2_with fail
  refine (r7set_is _ _ _).mono ?_
  rintro e w8 ⟨rfl, h8⟩
  have HB8 := Lib.hid (bstep HB7.out h8)
  clear h8
  go_wp2_with fail
  refine (r7cons_is _ _ _ _).mono ?_
  rintro e w9 ⟨rfl, h9⟩
  have HB9 := Lib.hid (bstep HB8.out h9)
  clear h9
  go_wp2_with fail
  refine (r7cons_is _ _ _ _).mono ?_
  rintro e w10 ⟨rfl, h10⟩
  have HB10 := Lib.hid (bstep HB9.out h10)
  clear h10
  go_wp2_with fail
  refine (r7cons_is _ _ _ _).mono ?_
  rintro e w11 ⟨rfl, h11⟩
  have HB11 := Lib.hid (bstep HB10.out h11)
  clear h11
  go_wp2_with fail
  have HO : Hid (OwnP (w11.alloc (.cells (progV recA).toArray 64)) w.heap.size (.slice (some ⟨w11.heap.size, 0, none⟩) 11 11) (recA ++ clearL 2 0)) := Lib.hid (World.ownsRow_lit w11 (progV recA).toArray 11 HB11.out.size (by unfold maxLen; omega) rfl)
  have HB := HB11.out.alloc HB11.out.size (.cells (progV recA).toArray 64)
  go_loopw [3, 4] (fun v i wr => ∃ k : Nat, k ≤ 5 ∧ i = .int .i64 ((2 : Int) + (k : Int)) ∧ Hid (OwnP wr w.heap.size v (recA ++ clearL 2 k)) ∧ Below w.heap.size w wr) (fun _ i _ => (7 - intOf i).toNat)
  case atStart => exact ⟨0, Nat.zero_le _, rfl, HO, HB⟩
  case round =>
    clear HO HB
    obtain ⟨k, hk, rfl, HO, hb⟩ := hrel
    have hsz := hb.size
    by_cases hlt : k < 5
    · have hlt' : (2 : Int) + (k : Int) ≤ 6 := by omega
      have HL := Lib.hid (clearL_succ 2 k)
      have HN : Hid ((recA ++ clearL 2 k).length ≤ 16) := Lib.hid (by rw [List.length_append, clearL_len]; show 11 + k ≤ 16; omega)
      go_wp2_with fail
      refine (r7set_is _ _ _).mono ?_
      rintro e w1' ⟨rfl, h1⟩
      have hb1 := hb.trans (h1.mono hsz)
      have hsz1 := hb1.size
      have HO1 := Lib.hid (HO.out.below h1)
      clear h1 hb HO
      go_wp2_with (at_builtin; refine wpList_app_prog rfl _ _ rfl w.heap.size _ (recA ++ clearL 2 k).length (progV (recA ++ clearL 2 k)) rfl (HO1.out.alloc _) _ rfl [setI ((2 : Int) + (k : Int)) [48]] (lit_prog _ [setI ((2 : Int) + (k : Int)) [48]] (by simp)) (by have := HN.out; simp only [List.length_cons, List.length_nil]; omega) (by simp; omega) ?_; intro v' w' hown hgrow)
      have hb2 : Below w.heap.size w w' := (hb1.alloc hsz1 _).grown hgrow (by simp; omega) (fun g h => ((HO1.out.alloc (.cells (progV [setI ((2 : Int) + (k : Int)) [48]]).toArray 64)).lt g h).1)
      have HO2 : Hid (OwnP w' w.heap.size v' (recA ++ clearL 2 (k + 1))) := Lib.hid (by
        unfold OwnP; rw [HL.out, ← List.append_assoc, progV_app, List.length_append]; exact hown)
      clear hown hgrow hb1 HO1
      go_wp2_with fail
      go_roundw
      case rel => exact ⟨k + 1, by omega, by go_num, HO2, hb2⟩
      case measure => simp [intOf]; omega
    · obtain rfl : k = 5 := by omega
      have HO5 : Hid (OwnP wr w.heap.size _ recL) := HO
      have HA2 := Lib.hid (HAR.out.below hb)
      clear HO
      go_wp2_with (at_builtin; refine wpList_app_prog rfl _ _ rfl w.heap.size _ 16 (progV recL) rfl HO5.out _ rfl q HA2.out (by rw [HQN.out]; exact HLQ.out) hb.size ?_; intro v' w' hown hgrow)
      have hb2 : Below w.heap.size w w' := hb.grown hgrow hb.size (fun g h => (HO5.out.lt g h).1)
      have ha : ArgP w' v' (rL q) := OwnP.arg (B := w.heap.size) (by unfold OwnP; rw [rL_len]; unfold rL; rw [progV_app]; exact hown)
      have HR := Lib.hid ha
      clear hown hgrow ha
      go_wp2_with fail
      go_ret
      exact ⟨_, rfl, HR.out, hb2⟩
/-- what the reference says of a program: its code, and whether it is one -/
def CodPost (w : World) (ps : List Ins) (e : Ending) (w' : World) : Prop :=
  Below w.heap.size w w' ∧ ((CodedP ps ∧ e = .returned (.tuple #[.string (S (enc (codes ps))), .bool true])) ∨ (¬ CodedP ps ∧ ∃ s, e = .returned (.tuple #[.string s, .bool false])))
set_option maxHeartbeats 1600000 in
set_option maxRecDepth 100000 in
theorem Coded_any (w : World) (v : Value) (ps : List Ins) (h : ArgP w v ps) (hl : ps.length ≤ 281474976710656) (hz : ∀ x ∈ ps, x.tree.length ≤ 281474976710656) (hr : AllR ps) :
    Calls Tryz.prog 79 #[v] w (CodPost w ps) := by
  by_cases hf : FitsP ps
  · have HF := Lib.hid (fits_any w v ps true h hl hz (by simp [hf]))
    have HC := Lib.hid (fun W (hb : Below w.heap.size w W) => Code_arg W v ps (h.below hb) ((fits_valid hr).2 hf))
    have HY : Hid (CodedP ps ↔ (enc (codes ps)).length ≤ 2000000) := Lib.hid ⟨fun h => h.2, fun h => ⟨hf, h⟩⟩
    have HUP : Hid ((enc (codes ps)).length ≤ 281474976710656) := Lib.hid (by
      have := enc_map_len (hr.mem hf.1)
      have h1 := hf.1; have h2 := hf.2
      unfold codes; omega)
    have hup := HUP.out
    clear h hl hz hr hf
    generalize hye : enc (codes ps) = y at *
    have HYE := Lib.hid hye
    clear hye
    by_cases h9 : y.length ≤ 2000000
    · have h9' : ((y.length : Nat) : Int) ≤ 2000000 := by omega
      have hd : decide (((y.length : Nat) : Int) ≤ 2000000) = true := decide_eq_true h9'
      have H9 := Lib.hid h9
      clear h9 h9' hup
      go_enter Tryz.func79, Tryz.ntmps79
      go_wp2_with fail
      refine HF.out.mono ?_
      rintro e w1 ⟨rfl, h1⟩
      have HB1 := Lib.hid h1
      clear h1
      go_wp2_with fail
      refine (HC.out _ HB1.out).mono ?_
      rintro e w2 ⟨rfl, h2⟩
      have HB2 := Lib.hid (bstep HB1.out h2)
      clear h2
      go_wp2_with fail
      go_ret2
      exact ⟨HB2.out, .inl ⟨HY.out.2 H9.out, by rw [HYE.out]; rfl⟩⟩
    · have h9' : ¬ ((y.length : Nat) : Int) ≤ 2000000 := by omega
      have hd : decide (((y.length : Nat) : Int) ≤ 2000000) = false := decide_eq_false h9'
      have H9 := Lib.hid h9
      clear h9 h9' hup
      go_enter Tryz.func79, Tryz.ntmps79
      go_wp2_with fail
      refine HF.out.mono ?_
      rintro e w1 ⟨rfl, h1⟩
      have HB1 := Lib.hid h1
      clear h1
      go_wp2_with fail
      refine (HC.out _ HB1.out).mono ?_
      rintro e w2 ⟨rfl, h2⟩
      have HB2 := Lib.hid (bstep HB1.out h2)
      clear h2
      go_wp2_with fail
      go_ret2
      exact ⟨HB2.out, .inr ⟨fun h => H9.out (HY.out.1 h), _, rfl⟩⟩
  · have HF := Lib.hid (fits_any w v ps false h hl hz (by simp [hf]))
    have HN : Hid (¬ CodedP ps) := Lib.hid (fun h => hf h.1)
    clear h hl hz hr hf
    go_enter Tryz.func79, Tryz.ntmps79
    go_wp2_with fail
    refine HF.out.mono ?_
    rintro e w1 ⟨rfl, h1⟩
    have HB1 := Lib.hid h1
    clear h1
    go_wp2_with fail
    go_ret2
    exact ⟨HB1.out, .inr ⟨HN.out, _, rfl⟩⟩
/-- the reference's program, and whether there is one -/
def KPost (w : World) (q : List Ins) (e : Ending) (w' : World) : Prop :=
  Below w.heap.size w w' ∧ ((KnowsP q ∧ ∃ v, e = .returned (.tuple #[v, .bool true]) ∧ ArgP w' v (knowL q)) ∨ (¬ KnowsP q ∧ e = .returned (.tuple #[.slice none 0 0, .bool false])))
set_option maxHeartbeats 1600000 in
set_option maxRecDepth 100000 in
theorem rKnow_any (w : World) (v : Value) (q : List Ins) (h : ArgP w v q) (hl : q.length ≤ 100000) (hz : ∀ x ∈ q, x.tree.length ≤ 2000000) (hr : AllR q) :
    Calls Tryz.prog 55 #[v] w (KPost w q) := by
  have HBH := Lib.hid (Behind_any w v q h (by omega))
  have HC := Lib.hid (fun W u (h : ArgP W u (rL q)) => Coded_any W u (rL q) h (by rw [rL_len]; omega) (rL_tree (by decide) (fun x hx => by have := hz x hx; omega)) (allR_r hr))
  have HS := Lib.hid (fun W u (h : ArgP W u (rL q)) => rSpec_any W u (rL q) (yL q) h (by rw [rL_len]; omega))
  have HCK := Lib.hid (fun W u (hc : CodedP (rL q)) (h : ArgP W u (knowL q)) => Coded_any W u (knowL q) h (by rw [knowL_len]; omega)
    (spec_trees ((fits_valid (allR_r hr)).2 hc.1) (code_vld ((fits_valid (allR_r hr)).2 hc.1) hc.2)) (allR_spec ((fits_valid (allR_r hr)).2 hc.1) (code_vld ((fits_valid (allR_r hr)).2 hc.1) hc.2)))
  clear h hl hz hr
  go_enter Tryz.func55, Tryz.ntmps55
  go_wp2_with fail
  refine HBH.out.mono ?_
  rintro e w1 ⟨v1, rfl, ha1, h1⟩
  have HA1 := Lib.hid ha1; have HB1 := Lib.hid h1
  obtain ⟨a1, c1, rfl⟩ := ha1.form
  clear ha1 h1
  generalize (rL q).length = n1 at *
  go_wp2_with fail
  refine (HC.out _ _ HA1.out).mono ?_
  rintro e w2 ⟨h2, ⟨hc, rfl⟩ | ⟨hc, s, rfl⟩⟩
  · have HB2 := Lib.hid (bstep HB1.out h2)
    have HA2 := Lib.hid (HA1.out.below h2)
    have HCD := Lib.hid hc
    clear h2 hc
    rw [show enc (codes (rL q)) = yL q from rfl]
    generalize hy : yL q = y at *
    have HYE := Lib.hid hy
    clear hy
    go_wp2_with fail
    refine (HS.out _ _ HA2.out).mono ?_
    rintro e w3 ⟨v3, rfl, ha3, h3⟩
    have HB3 := Lib.hid (bstep HB2.out h3)
    have HA3 : Hid (ArgP w3 v3 (knowL q)) := Lib.hid (by unfold knowL; rw [HYE.out]; exact ha3)
    clear ha3 h3
    obtain ⟨a3, c3, rfl⟩ := HA3.out.form
    generalize (knowL q).length = n3 at *
    go_wp2_with fail
    refine (HCK.out _ _ HCD.out HA3.out).mono ?_
    rintro e w4 ⟨h4, ⟨hc4, rfl⟩ | ⟨hc4, s4, rfl⟩⟩
    · have HB4 := Lib.hid (bstep HB3.out h4)
      have HA4 := Lib.hid (HA3.out.below h4)
      have HK : Hid (KnowsP q) := Lib.hid ⟨HCD.out, hc4⟩
      clear h4 hc4
      generalize enc (codes (knowL q)) = y4 at *
      go_wp2_with fail
      go_ret2
      exact ⟨HB4.out, .inl ⟨HK.out, _, rfl, HA4.out⟩⟩
    · have HB4 := Lib.hid (bstep HB3.out h4)
      have HK : Hid (¬ KnowsP q) := Lib.hid (fun h => hc4 h.2)
      clear h4 hc4
      go_wp2_with fail
      go_ret2
      exact ⟨HB4.out, .inr ⟨HK.out, rfl⟩⟩
  · have HB2 := Lib.hid (bstep HB1.out h2)
    have HK : Hid (¬ KnowsP q) := Lib.hid (fun h => hc h.1)
    clear h2 hc
    go_wp2_with fail
    go_ret2
    exact ⟨HB2.out, .inr ⟨HK.out, rfl⟩⟩
set_option maxHeartbeats 800000 in
set_option maxRecDepth 100000 in
theorem told_yes (w : World) (a : Option Addr) (n c : Nat) :
    Calls Tryz.prog 58 #[.slice a n c, .bool true] w fun e w' => e = .returned (.tuple #[.slice a n c, .int .i64 0]) ∧ Below w.heap.size w w' := by
  go_enter Tryz.func58, Tryz.ntmps58
  go_wp2
  go_ret2
  exact ⟨rfl, Below.refl _ _⟩
set_option maxHeartbeats 800000 in
set_option maxRecDepth 100000 in
theorem told_no (w : World) (v : Value) :
    Calls Tryz.prog 58 #[v, .bool false] w fun e w' => e = .returned (.tuple #[.slice none 0 0, .int .i64 3]) ∧ Below w.heap.size w w' := by
  go_enter Tryz.func58, Tryz.ntmps58
  go_wp2
  go_ret2
  exact ⟨rfl, Below.refl _ _⟩
open Classical in
noncomputable def madeDue (q : List Ins) : Int := if FitsP q ∧ KnowsP q then 0 else 3
theorem made_know {q : List Ins} (h : PValid q) : madeDue q = knowDue q := by
  unfold madeDue knowDue
  rw [if_pos h]
  by_cases hk : KnowsP q
  · rw [if_pos hk, if_pos ⟨⟨h.1, h.2.1⟩, hk⟩]
  · rw [if_neg hk, if_neg (fun h => hk h.2)]
/-- a program and an error that are returned, the one and the other as they are due -/
def RRes (w : World) (d : Int) (cs : List Ins) (e : Ending) (w' : World) : Prop :=
  Below w.heap.size w w' ∧ ∃ v, e = .returned (.tuple #[v, .int .i64 d]) ∧ ArgP w' v (resL d cs)
theorem rres_no {w w' : World} {d : Int} {cs : List Ins} (hd : d ≠ 0) (hb : Below w.heap.size w w') : RRes w d cs (.returned (.tuple #[.slice none 0 0, .int .i64 d])) w' := by
  refine ⟨hb, _, rfl, ?_⟩
  unfold resL
  rw [if_neg hd]
  exact .inl ⟨rfl, .inl rfl⟩
set_option maxHeartbeats 1600000 in
set_option maxRecDepth 100000 in
theorem Made_any (w : World) (v : Value) (q : List Ins) (h : ArgP w v q) (hl : q.length ≤ 100000) (hz : ∀ x ∈ q, x.tree.length ≤ 2000000) (hr : AllR q) :
    Calls Tryz.prog 19 #[v] w (RRes w (madeDue q) (knowL q)) := by
  by_cases hf : FitsP q
  · have HF := Lib.hid (fits_any w v q true h (by omega) (fun x hx => by have := hz x hx; omega) (by simp [hf]))
    have HK := Lib.hid (fun W (hb : Below w.heap.size w W) => rKnow_any W v q (h.below hb) hl hz hr)
    have HY : Hid (KnowsP q → madeDue q = 0) := Lib.hid (fun h => if_pos ⟨hf, h⟩)
    have HN : Hid (¬ KnowsP q → madeDue q = 3) := Lib.hid (fun h => if_neg (fun h2 => h h2.2))
    clear h hl hz hr hf
    go_enter Tryz.func19, Tryz.ntmps19
    go_wp2_with fail
    refine HF.out.mono ?_
    rintro e w1 ⟨rfl, h1⟩
    have HB1 := Lib.hid h1
    clear h1
    go_wp2_with fail
    refine (HK.out _ HB1.out).mono ?_
    rintro e w2 ⟨h2, ⟨hk, v2, rfl, ha2⟩ | ⟨hk, rfl⟩⟩
    · have HB2 := Lib.hid (bstep HB1.out h2)
      have HA2 := Lib.hid ha2
      have HD : Hid (madeDue q = 0) := Lib.hid (HY.out hk)
      obtain ⟨a2, c2, rfl⟩ := ha2.form
      clear h2 ha2 hk
      generalize (knowL q).length = n2 at *
      go_wp2_with fail
      refine (told_yes _ _ _ _).mono ?_
      rintro e w3 ⟨rfl, h3⟩
      have HB3 := Lib.hid (bstep HB2.out h3)
      have HA3 := Lib.hid (HA2.out.below h3)
      clear h3
      go_wp2_with fail
      go_ret2
      rw [HD.out]
      exact ⟨HB3.out, _, rfl, HA3.out⟩
    · have HB2 := Lib.hid (bstep HB1.out h2)
      have HD : Hid (madeDue q = 3) := Lib.hid (HN.out hk)
      clear h2 hk
      go_wp2_with fail
      refine (told_no _ _).mono ?_
      rintro e w3 ⟨rfl, h3⟩
      have HB3 := Lib.hid (bstep HB2.out h3)
      clear h3
      go_wp2_with fail
      go_ret2
      rw [HD.out]
      exact rres_no (by decide) HB3.out
  · have HF := Lib.hid (fits_any w v q false h (by omega) (fun x hx => by have := hz x hx; omega) (by simp [hf]))
    have HD : Hid (madeDue q = 3) := Lib.hid (if_neg (fun h2 => hf h2.1))
    clear h hl hz hr hf
    go_enter Tryz.func19, Tryz.ntmps19
    go_wp2_with fail
    refine HF.out.mono ?_
    rintro e w1 ⟨rfl, h1⟩
    have HB1 := Lib.hid h1
    clear h1
    go_wp2_with fail
    go_ret2
    rw [HD.out]
    exact rres_no (by decide) HB1.out
end Go.Proofs.YtmhoacnbmbhcjaaGreatDoor

namespace Go.Proofs.YtmhoacnbmbhcjaaGreatDoor
open Go.RowKit Pl

set_option maxHeartbeats 800000 in
set_option maxRecDepth 100000 in
/-- the characters of trees of a program of any length, whatever they are together -/
theorem Trees_some2 (w : World) (b off cap : Nat) (ps : List Ins) (hc : ProgAt w b off ps) (hz : ∀ x ∈ ps, x.tree.length ≤ 281474976710656) (hm : ps.length ≤ 281474976710656) :
    Calls Tryz.prog 54 #[.slice (some ⟨b, off, none⟩) ps.length cap] w fun e w' => (∃ t, e = .returned (.int .i64 t)) ∧ w = w' := by
  generalize hnn : ps.length = n at *
  have HN := Lib.hid hnn; have HC := Lib.hid hc; have HZ := Lib.hid hz; clear hnn hc hz
  go_enter Tryz.func54, Tryz.ntmps54
  go_wp2
  go_loop [3, 4] (fun t i => ∃ (k : Nat) (u : Int), k ≤ n ∧ i = .int .i64 k ∧ t = .int .i64 u) (fun _ i => n - (intOf i).toNat)
  case atStart => exact ⟨0, 0, Nat.zero_le _, rfl, rfl⟩
  case round =>
    obtain ⟨k, u, hk, rfl, rfl⟩ := hrel
    by_cases hlt : k < n
    · obtain ⟨x, hx⟩ := get_at (ps := ps) (k := k) (by rw [HN.out]; exact hlt)
      have hcell := (HC.out.2 k x hx).2.2.2.2
      have hxl := HZ.out x (List.mem_of_getElem? hx)
      clear hx
      go_wp2
      go_round
      case rel => exact ⟨k + 1, _, by omega, by go_num, rfl⟩
      case measure => simp [intOf]; omega
    · go_wp2
      go_ret
      exact ⟨⟨_, rfl⟩, rfl⟩
theorem Trees_any (w : World) (v : Value) (ps : List Ins) (h : ArgP w v ps) (hm : ps.length ≤ 281474976710656) (hz : ∀ x ∈ ps, x.tree.length ≤ 281474976710656) :
    Calls Tryz.prog 54 #[v] w fun e w' => (∃ t, e = .returned (.int .i64 t)) ∧ w = w' := by
  rcases h with ⟨rfl, h⟩ | ⟨h0, b1, off, cap, rfl, hc⟩
  · exact (Trees_arg w v [] (.inl ⟨rfl, h⟩) (by simp) (by simp)).mono fun e w' ⟨h1, h2⟩ => ⟨⟨_, h1⟩, h2⟩
  · exact Trees_some2 w b1 off cap ps hc hz hm
/-- a bool comes back -/
def IsB (e : Ending) : Prop := ∃ r, e = .returned (.bool r)
set_option maxHeartbeats 1600000 in
set_option maxRecDepth 100000 in
/-- whether programs are small; the answer doesn't matter -/
theorem Small_any (m : Int) (w : World) (b off cap : Nat) (pss : List (List Ins)) (hc : PiecesAt w b off pss) (hm : pss.length ≤ 281474976710656) (hs : ∀ p ∈ pss, SizeP p) :
    Calls Tryz.prog 15 #[.int .i64 m, .slice (some ⟨b, off, none⟩) pss.length cap] w fun e w' => IsB e ∧ Below w.heap.size w w' := by
  generalize hnn : pss.length = n at *
  have HN := Lib.hid hnn; have HC := Lib.hid hc; have HS := Lib.hid hs; clear hnn hc hs
  go_enter Tryz.func15, Tryz.ntmps15
  go_wp2
  go_loopw [5, 6] (fun t i wr => ∃ (k : Nat) (u : Int), k ≤ n ∧ i = .int .i64 k ∧ t = .int .i64 u ∧ Below w.heap.size w wr) (fun _ i _ => n - (intOf i).toNat)
  case atStart => exact ⟨0, 0, Nat.zero_le _, rfl, rfl, Below.refl _ _⟩
  case round =>
    obtain ⟨k, u, hk, rfl, rfl, hb⟩ := hrel
    by_cases hlt : k < n
    · have hk1 : (k : Int) < (n : Int) := by omega
      obtain ⟨p, hp⟩ := piece_at (pss := pss) (k := k) (by rw [HN.out]; exact hlt)
      obtain ⟨v, hcell, hA⟩ := HC.out.2 k p hp
      have k0 := (hb.cell (p := ⟨b, off + k, none⟩) HC.out.1).trans hcell
      have HS1 := HS.out p (List.mem_of_getElem? hp)
      have HTR := Lib.hid (fun W (h : ArgP W v p) => Trees_any W v p h HS1.1 HS1.2)
      have hq := HS1.1
      obtain ⟨a, c, rfl⟩ := hA.form
      have HA := Lib.hid (hA.below hb)
      clear hcell hA HS1 hp
      generalize p.length = q at *
      have hq2 : ¬ (9223372036854775807 : Int) < (q : Int) := by omega
      by_cases hgt : m < wrap64 (wrap64 (u + 1) + (q : Int))
      · go_wp2_with fail
        go_ret
        exact ⟨⟨_, rfl⟩, hb⟩
      · go_wp2_with fail
        refine (HTR.out _ HA.out).mono ?_
        rintro e w2 ⟨⟨t, rfl⟩, rfl⟩
        go_wp2_with fail
        go_roundw
        case rel => exact ⟨k + 1, _, by omega, by go_num, rfl, hb⟩
        case measure => simp [intOf]; omega
    · obtain rfl : k = n := by omega
      go_wp2_with fail
      go_ret
      exact ⟨⟨_, rfl⟩, hb⟩
end Go.Proofs.YtmhoacnbmbhcjaaGreatDoor

namespace Go.Proofs.YtmhoacnbmbhcjaaGreatDoor
open Go.RowKit Pl

theorem resL_len (d : Int) (cs : List Ins) : (resL d cs).length ≤ cs.length := by unfold resL; split <;> simp
theorem know_len (q : List Ins) : (resL (knowDue q) (knowL q)).length ≤ 4019 := by
  by_cases hp : PValid q
  · have h1 := resL_len (knowDue q) (knowL q)
    rw [knowL_len] at h1
    have := hp.1
    omega
  · rw [knowDue_form hp]
    show ([] : List Ins).length ≤ _
    simp
set_option maxHeartbeats 800000 in
set_option maxRecDepth 100000 in
theorem spoil_none (w : World) (a : Option Addr) (cap : Nat) :
    Calls Tryz.prog 22 #[.slice a 0 cap] w fun e w' => e = .returned (.tuple #[]) ∧ w = w' := by
  go_enter Tryz.func22, Tryz.ntmps22
  go_wp2
  go_loop [2] (fun i => i = .int .i64 0) (fun _ => 0)
  case atStart => rfl
  case round =>
    subst hrel
    go_wp2
    go_end0
    exact ⟨rfl, rfl⟩
theorem own_st5 {w : World} {B g n cap m : Nat} {e : TypeId} {xs : List Value} (h : w.ownsRow B e 5 (.slice (some ⟨g, 0, none⟩) n cap) n xs) (v0 v1 v2 v3 v4 : Value) :
    (((((w.setCell ⟨g, m, none⟩ v0).setCell ⟨g, m + 1, none⟩ v1).setCell ⟨g, m + 2, none⟩ v2).setCell ⟨g, m + 3, none⟩ v3).setCell ⟨g, m + 4, none⟩ v4).ownsRow B e 5 (.slice (some ⟨g, 0, none⟩) n cap) n (((((xs.set m v0).set (m + 1) v1).set (m + 2) v2).set (m + 3) v3).set (m + 4) v4) :=
  (((((h.stored m v0).1.stored (m + 1) v1).1.stored (m + 2) v2).1.stored (m + 3) v3).1.stored (m + 4) v4).1
theorem own_c5 {w : World} {B g n cap : Nat} {e : TypeId} {xs : List Value} (h : w.ownsRow B e 5 (.slice (some ⟨g, 0, none⟩) n cap) n xs) (j : Nat) (hj : j < n * 5) : ∃ u, w.cell? ⟨g, j, none⟩ = some u := by
  have hx := h.1
  rw [h.cellAt j hj]
  exact ⟨xs[j]'(by omega), List.getElem?_eq_getElem _⟩
set_option maxHeartbeats 1600000 in
set_option maxRecDepth 100000 in
theorem spoil_some (w : World) (B g cap n : Nat) (xs : List Value) (ho : w.ownsRow B 64 5 (.slice (some ⟨g, 0, none⟩) n cap) n xs) (hg : B ≤ g) (hB : B ≤ w.heap.size) (hm : n ≤ 281474976710656) :
    Calls Tryz.prog 22 #[.slice (some ⟨g, 0, none⟩) n cap] w fun e w' => e = .returned (.tuple #[]) ∧ Below B w w' := by
  have HO := Lib.hid ho
  have HB := Lib.hid (Below.refl B w)
  clear ho
  go_enter Tryz.func22, Tryz.ntmps22
  go_wp2
  go_loopw [2] (fun i wr => ∃ (k : Nat) (ys : List Value), k ≤ n ∧ i = .int .i64 k ∧ Hid (wr.ownsRow B 64 5 (.slice (some ⟨g, 0, none⟩) n cap) n ys) ∧ Hid (Below B w wr)) (fun i _ => n - (intOf i).toNat)
  case atStart => exact ⟨0, xs, Nat.zero_le _, rfl, HO, HB⟩
  case round =>
    clear HO HB
    obtain ⟨k, ys, hk, rfl, HO, HB⟩ := hrel
    have hsz : B ≤ wr.heap.size := Nat.le_trans hB HB.out.size
    by_cases hlt : k < n
    · have hk1 : (k : Int) < (n : Int) := by omega
      have own3 := HO.out
      have hb3 := HB.out
      obtain ⟨u0, c0⟩ := own_c5 own3 (k * 5) (by omega)
      obtain ⟨u1, c1⟩ := own_c5 own3 (k * 5 + 1) (by omega)
      obtain ⟨u2, c2⟩ := own_c5 own3 (k * 5 + 2) (by omega)
      obtain ⟨u3, c3⟩ := own_c5 own3 (k * 5 + 3) (by omega)
      obtain ⟨u4, c4⟩ := own_c5 own3 (k * 5 + 4) (by omega)
      have f0 := own3.frozenAt (k * 5)
      have f1 := own3.frozenAt (k * 5 + 1)
      have f2 := own3.frozenAt (k * 5 + 2)
      have f3 := own3.frozenAt (k * 5 + 3)
      have f4 := own3.frozenAt (k * 5 + 4)
      have HO4 := Lib.hid (own_st5 (m := k * 5) own3 (.int .i64 (-1)) (.int .i64 (-1)) (.int .i64 0) (.int .i64 0) (.string ⟨#[]⟩))
      have HB4 := Lib.hid (below5at (m := k * 5) (.int .i64 (-1)) (.int .i64 (-1)) (.int .i64 0) (.int .i64 0) (.string ⟨#[]⟩) hb3 hg)
      clear own3 hb3
      go_wp2_with fail
      go_roundw
      case rel => exact ⟨k + 1, _, by omega, by go_num, HO4, HB4⟩
      case measure => simp [intOf]; omega
    · obtain rfl : k = n := by omega
      go_wp2_with fail
      go_end0
      exact ⟨rfl, HB.out⟩
/-- a program of one's own is overwritten -/
theorem spoil_any (w : World) (B : Nat) (v : Value) (ps : List Ins) (ho : OwnP w B v ps) (hB : B ≤ w.heap.size) (hm : ps.length ≤ 281474976710656) :
    Calls Tryz.prog 22 #[v] w fun e w' => e = .returned (.tuple #[]) ∧ Below B w w' := by
  rcases Nat.eq_zero_or_pos ps.length with h0 | h0
  · obtain ⟨a, c, rfl⟩ := ho.arg.form
    rw [h0]
    refine (spoil_none w a c).mono ?_
    rintro e w' ⟨rfl, rfl⟩
    exact ⟨rfl, Below.refl _ _⟩
  · obtain ⟨g, cap, he, hg, _⟩ := (own_prog ho).2.2 h0
    subst he
    exact spoil_some w B g cap ps.length _ ho hg hB hm
def pTail7 : List Ins := [tailI 0 0]
def pHead7 : List Ins := [headI 0 0]
theorem pNil7_valid : PValid [] := ⟨by simp, by simp [trees], fun k x h => by simp at h⟩
theorem pTail7_valid : PValid pTail7 := (fits_valid (rights_all.1 (rights_one.2 (by decide)))).2 ⟨by decide, by decide⟩
theorem pHead7_valid : PValid pHead7 := (fits_valid (rights_all.1 (rights_one.2 (by decide)))).2 ⟨by decide, by decide⟩
theorem knows_of {q : List Ins} (h : (decide ((rL q).length ≤ 4000) && decide (trees (rL q) ≤ 2000000) && decide ((enc (codes (rL q))).length ≤ 2000000) && decide ((knowL q).length ≤ 4000) && decide (trees (knowL q) ≤ 2000000) && decide ((enc (codes (knowL q))).length ≤ 2000000)) = true) : KnowsP q := by
  simp only [Bool.and_eq_true, decide_eq_true_eq] at h
  exact ⟨⟨⟨h.1.1.1.1.1, h.1.1.1.1.2⟩, h.1.1.1.2⟩, ⟨h.1.1.2, h.1.2⟩, h.2⟩
theorem knows_nil : KnowsP [] := knows_of (by kernel_rfl)
theorem knows_tail : KnowsP pTail7 := knows_of (by kernel_rfl)
theorem knows_head : KnowsP pHead7 := knows_of (by kernel_rfl)
set_option maxHeartbeats 1600000 in
set_option maxRecDepth 100000 in
theorem awake7_any (w : World) : Calls Tryz.prog 16 #[] w fun e w' => e = .returned (.bool true) ∧ Below w.heap.size w w' := by
  have K1 := Lib.hid (fun W v h => Know_own W v [] h (by simp) (by simp))
  have K2 := Lib.hid (fun W v h => Know_own W v pTail7 h (by simp [pTail7]) (by simp [pTail7, tailI]))
  rw [knowDue_ok pNil7_valid knows_nil] at K1
  rw [knowDue_ok pTail7_valid knows_tail] at K2
  have R1 := Lib.hid (fun W v h => rKnow_any W v [] h (by simp) (by simp) pNil7_valid.2.2)
  have R2 := Lib.hid (fun W v h => rKnow_any W v pTail7 h (by simp [pTail7]) (by simp [pTail7, tailI]) pTail7_valid.2.2)
  have S1 := Lib.hid (fun W v v2 h1 h2 => PSame_arg W v v2 (knowL []) (knowL []) true h1 h2 (by rw [knowL_len]; simp) (by simp))
  have S2 := Lib.hid (fun W v v2 h1 h2 => PSame_arg W v v2 (knowL pTail7) (knowL pTail7) true h1 h2 (by rw [knowL_len]; simp [pTail7]) (by simp))
  go_enter Tryz.func16, Tryz.ntmps16
  go_wp2_with fail
  refine (K1.out _ _ (.inl ⟨rfl, .inl rfl⟩)).mono ?_
  rintro e w1 ⟨h1, v1, rfl, ho1⟩
  have HA1 : Hid (ArgP w1 v1 (knowL [])) := Lib.hid (OwnP.arg ho1); have HB1 := Lib.hid h1
  clear ho1 h1
  go_wp2_with fail
  refine (K2.out _ _ (lit_prog _ pTail7 (by decide))).mono ?_
  rintro e w2 ⟨h2, v2, rfl, ho2⟩
  have HB2 := Lib.hid (bstep (HB1.out.alloc HB1.out.size _) h2)
  have HA2 : Hid (ArgP w2 v2 (knowL pTail7)) := Lib.hid (OwnP.arg ho2)
  have HA12 := Lib.hid ((HA1.out.below (alloc_below _ _)).below h2)
  clear ho2 h2
  go_wp2_with fail
  refine (R1.out _ _ (.inl ⟨rfl, .inl rfl⟩)).mono ?_
  rintro e w3 ⟨h3, ⟨_, v3, rfl, ha3⟩ | ⟨hn, _⟩⟩
  · have HB3 := Lib.hid (bstep HB2.out h3)
    have HA3 := Lib.hid ha3; have HA13 := Lib.hid (HA12.out.below h3); have HA23 := Lib.hid (HA2.out.below h3)
    clear ha3 h3
    go_wp2_with fail
    refine (R2.out _ _ (lit_prog _ pTail7 (by decide))).mono ?_
    rintro e w4 ⟨h4, ⟨_, v4, rfl, ha4⟩ | ⟨hn, _⟩⟩
    · have HB4 := Lib.hid (bstep (HB3.out.alloc HB3.out.size _) h4)
      have HA4 := Lib.hid ha4
      have HA34 := Lib.hid ((HA3.out.below (alloc_below _ _)).below h4)
      have HA14 := Lib.hid ((HA13.out.below (alloc_below _ _)).below h4); have HA24 := Lib.hid ((HA23.out.below (alloc_below _ _)).below h4)
      clear ha4 h4
      go_wp2_with fail
      refine (S1.out _ _ _ HA14.out HA34.out).mono ?_
      rintro e w5 ⟨rfl, h5⟩
      have HB5 := Lib.hid (bstep HB4.out h5)
      have HA25 := Lib.hid (HA24.out.below h5); have HA45 := Lib.hid (HA4.out.below h5)
      clear h5
      go_wp2_with fail
      refine (S2.out _ _ _ HA25.out HA45.out).mono ?_
      rintro e w6 ⟨rfl, h6⟩
      have HB6 := Lib.hid (bstep HB5.out h6)
      clear h6
      go_wp2_with fail
      go_ret
      exact ⟨rfl, HB6.out⟩
    · exact absurd knows_tail hn
  · exact absurd knows_nil hn
end Go.Proofs.YtmhoacnbmbhcjaaGreatDoor
