/- RunTouches: the reference's test of a state, and a state's copy. By an AI agent. -/
import Derived.Test.YtkpfocgcnehajaaStepM
import Derived.Test.YtkpfocgcnehajaaLsts
namespace Go.Proofs.Ytkpfocgcnehajaa
open Go.RowKit Pl

set_option maxHeartbeats 1600000 in
set_option maxRecDepth 100000 in
theorem rfits_short (w : World) (pa : Option Addr) (n pc : Nat) (a : Int) (A : Option Addr) (len cap : Nat) (h : a < 0 ∨ (n : Int) < a ∨ len ≠ 32) :
    Calls Try.prog 62 #[.slice pa n pc, .agg #[.int .i64 a, .slice A len cap]] w fun e w' => e = .returned (.bool false) ∧ Below w.heap.size w w' := by
  have hb : Below w.heap.size w (w.alloc (.cells #[.int .i64 a, .slice A len cap] 78)) := (Below.refl _ _).alloc (Nat.le_refl _) _
  have HB := Lib.hid hb
  clear hb
  by_cases h1 : a < 0
  · clear h
    go_enter Try.func62, Try.ntmps62
    go_wp2
    go_ret
    exact ⟨rfl, HB.out⟩
  · by_cases h2 : (n : Int) < a
    · clear h
      go_enter Try.func62, Try.ntmps62
      go_wp2
      go_ret
      exact ⟨rfl, HB.out⟩
    · have h3 : ((len : Int) == 32) = false := beq_eq_false_iff_ne.2 (by omega)
      have h4 : ¬ (len : Int) = 32 := by omega
      clear h
      go_enter Try.func62, Try.ntmps62
      go_wp2
      go_ret
      exact ⟨rfl, HB.out⟩
set_option maxHeartbeats 1600000 in
set_option maxRecDepth 100000 in
theorem rfits_full (w : World) (pa : Option Addr) (n pc : Nat) (a : Int) (b off cap : Nat) (ls : List (List UInt8)) (r : Bool) (h1 : 0 ≤ a) (h2 : a ≤ (n : Int)) (hl : ls.length = 32) (hc : StrAt w b off ls) (hz : ∀ l ∈ ls, l.length ≤ 281474976710656) (hr : r = true ↔ ∀ l ∈ ls, vld l = true) :
    Calls Try.prog 62 #[.slice pa n pc, .agg #[.int .i64 a, .slice (some ⟨b, off, none⟩) 32 cap]] w fun e w' => e = .returned (.bool r) ∧ Below w.heap.size w w' := by
  have HB0 := Lib.hid (show Below w.heap.size w (w.alloc (.cells #[.int .i64 a, .slice (some ⟨b, off, none⟩) 32 cap] 78)) from (Below.refl _ _).alloc (Nat.le_refl _) _)
  have c1 : (w.alloc (.cells #[.int .i64 a, .slice (some ⟨b, off, none⟩) 32 cap] 78)).cell? ⟨w.heap.size, 1, none⟩ = some (.slice (some ⟨b, off, none⟩) 32 cap) := by rw [World.cell?_alloc_new]; rfl
  have HC := Lib.hid hc; have HZ := Lib.hid hz; have HR := Lib.hid hr; have HN := Lib.hid hl
  have HSZ := Lib.hid (show w.heap.size < (w.alloc (.cells #[.int .i64 a, .slice (some ⟨b, off, none⟩) 32 cap] 78)).heap.size by simp)
  have g1 : ¬ a < 0 := by omega
  have g2 : ¬ (n : Int) < a := by omega
  have CC := Lib.hid c1
  clear hc hz hr hl h1 h2 c1
  go_enter Try.func62, Try.ntmps62
  go_wp2_with fail
  generalize w.alloc (.cells #[.int .i64 a, .slice (some ⟨b, off, none⟩) 32 cap] 78) = w0 at *
  go_loopw [5] (fun i wr => ∃ k : Nat, k ≤ 32 ∧ i = .int .i64 k ∧ wr = w0 ∧ Hid (∀ j, j < k → vld (ls.getD j []) = true)) (fun i _ => 32 - (intOf i).toNat)
  case atStart => exact ⟨0, Nat.zero_le _, rfl, rfl, Lib.hid (fun j hj => by omega)⟩
  case round =>
    obtain ⟨k, hk, rfl, rfl, hK⟩ := hrel
    have q1 := CC.out
    by_cases hlt : k < 32
    · have hcell := (HC.out.below HB0.out).2 k (by rw [HN.out]; exact hlt)
      have hxl : (ls.getD k []).length ≤ 281474976710656 := HZ.out _ (by simp [List.getD, HN.out, hlt])
      have HME : Hid (ls.getD k [] ∈ ls) := Lib.hid (by simp [List.getD, HN.out, hlt])
      generalize hX : ls.getD k [] = x at *
      have HX := Lib.hid hX; clear hX
      have i0 : (0 : Int) ≤ (k : Int) := by omega
      have i1 : (k : Int) < 32 := by omega
      by_cases hv : vld x = true
      · have HW := Lib.hid (fun W : World => rValid_eq true (S x) W (by rw [S_size]; exact hxl) hv)
        have HVX := Lib.hid hv; clear hv
        go_wp2_with (go_at_call 19; refine (HW.out _).mono ?_; rintro e w1 ⟨rfl, rfl⟩)
        go_roundw
        case rel => exact ⟨k + 1, by omega, by go_num, by first | rfl | trivial, Lib.hid (fun j hj => by
          rcases Nat.lt_or_ge j k with h | h
          · exact hK.out j h
          · obtain rfl : j = k := by omega
            rw [HX.out]; exact HVX.out)⟩
        case measure => simp [intOf]; omega
      · have hv : vld x = false := by simpa using hv
        have HW := Lib.hid (fun W : World => rValid_eq false (S x) W (by rw [S_size]; exact hxl) hv)
        have HVX := Lib.hid hv; clear hv
        go_wp2_with (go_at_call 19; refine (HW.out _).mono ?_; rintro e w1 ⟨rfl, rfl⟩)
        go_ret
        refine ⟨?_, HB0.out⟩
        cases r with
        | false => rfl
        | true => have := HR.out.1 rfl x HME.out; rw [HVX.out] at this; cases this
    · obtain rfl : k = 32 := by omega
      have hr : r = true := HR.out.2 fun l hl => by
        obtain ⟨j, hj, rfl⟩ := List.getElem_of_mem hl
        have := hK.out j (by have := HN.out; omega)
        simpa [List.getD, hj] using this
      go_wp2
      go_ret
      subst hr
      exact ⟨rfl, HB0.out⟩
theorem rfits_any (w : World) (pa : Option Addr) (n pc : Nat) (a : Int) (S0 : Value) (ls : List (List UInt8)) (r : Bool) (h : RegsP w S0 ls) (hz : ∀ l ∈ ls, l.length ≤ 281474976710656) (hr : r = true ↔ SFits a ls n) :
    Calls Try.prog 62 #[.slice pa n pc, .agg #[.int .i64 a, S0]] w fun e w' => e = .returned (.bool r) ∧ Below w.heap.size w w' := by
  have short : ∀ (A : Option Addr) (cap : Nat), S0 = .slice A ls.length cap → (a < 0 ∨ (n : Int) < a ∨ ls.length ≠ 32) → Calls Try.prog 62 #[.slice pa n pc, .agg #[.int .i64 a, S0]] w fun e w' => e = .returned (.bool r) ∧ Below w.heap.size w w' := fun A cap e hx => by
    subst e
    have hrf : r = false := by
      cases r with
      | false => rfl
      | true => obtain ⟨h1, h2, h3, _⟩ := hr.1 rfl; omega
    rw [hrf]
    exact rfits_short w pa n pc a A ls.length cap hx
  rcases h with ⟨rfl, h⟩ | ⟨h0, b, off, cap, rfl, hc⟩
  · obtain ⟨A, cap, rfl⟩ : ∃ A cap, S0 = .slice A 0 cap := by
      rcases h with rfl | ⟨ad, cap, rfl⟩
      · exact ⟨_, _, rfl⟩
      · exact ⟨_, _, rfl⟩
    exact short A cap rfl (.inr (.inr (by decide)))
  · by_cases h1 : 0 ≤ a
    · by_cases h2 : a ≤ (n : Int)
      · by_cases h3 : ls.length = 32
        · rw [h3]
          exact rfits_full w pa n pc a b off cap ls r h1 h2 h3 hc hz (hr.trans ⟨fun h => h.2.2.2, fun h => ⟨h1, h2, h3, h⟩⟩)
        · exact short _ cap rfl (.inr (.inr h3))
      · exact short _ cap rfl (.inr (.inl (by omega)))
    · exact short _ cap rfl (.inl (by omega))
def CopP (w : World) (a : Int) (ls : List (List UInt8)) (e : Ending) (w' : World) : Prop := ∃ g c, e = .returned (.agg #[.int .i64 a, .slice (some ⟨g, 0, none⟩) ls.length c]) ∧ StrAt w' g 0 ls ∧ w.heap.size ≤ g ∧ Below w.heap.size w w'
set_option maxHeartbeats 1600000 in
set_option maxRecDepth 100000 in
theorem copied3_some (w : World) (a : Int) (b off m cap : Nat) (ls : List (List UInt8)) (hm : m = ls.length) (h0 : 0 < m) (hz : m * 16 ≤ 140737488355328) (hc : StrAt w b off ls) :
    Calls Try.prog 53 #[.agg #[.int .i64 a, .slice (some ⟨b, off, none⟩) m cap]] w (CopP w a ls) := by
  obtain ⟨i0, hi, hz0, hz1, hz2⟩ := info_parts Try.infoStr
  have HN := Lib.hid (show ((w.alloc (.cells #[.int .i64 a, .slice (some ⟨b, off, none⟩) m cap] 78)).alloc (.cells #[.int .i64 0, .slice none 0 0] 78)).heap.size = w.heap.size + 2 by simp)
  have hb0 : Below w.heap.size w ((w.alloc (.cells #[.int .i64 a, .slice (some ⟨b, off, none⟩) m cap] 78)).alloc (.cells #[.int .i64 0, .slice none 0 0] 78)) := ((Below.refl _ _).alloc (Nat.le_refl _) _).alloc (by simp) _
  have HB := Lib.hid hb0
  have HBX := Lib.hid (bx_new w a (.slice (some ⟨b, off, none⟩) m cap))
  have HC := Lib.hid (hc.below hb0)
  have HL := Lib.hid (show (strsV ls).length = m * 1 by rw [strsV_len, hm, Nat.mul_one])
  have H1 : Hid (∀ u ∈ strsV ls, u.oneCell' = true) := Lib.hid (by intro u hu; simp [strsV] at hu; obtain ⟨_, _, rfl⟩ := hu; rfl)
  have HM := Lib.hid hm
  clear hc hb0 hm
  go_enter Try.func53, Try.ntmps53
  go_wp2_with fail
  generalize ((w.alloc (.cells #[.int .i64 a, .slice (some ⟨b, off, none⟩) m cap] 78)).alloc (.cells #[.int .i64 0, .slice none 0 0] 78)) = w0 at *
  obtain ⟨s0, s1, c0, c1, f0, f1, hs2, hbw⟩ := HBX.out
  have hal : Below w0.heap.size w0 (w0.alloc (.cells #[] 9)) := (Below.refl _ _).alloc (Nat.le_refl _) _
  have p0 := cell_keep hal s0; have p1 := cell_keep hal s1
  have e0 := cell_keep hal c0; have e1 := cell_keep hal c1
  have q0 : (w0.alloc (.cells #[] 9)).frozen? ⟨w.heap.size + 1, 0, none⟩ = false := (hal.frozen (p := ⟨w.heap.size + 1, 0, none⟩) (by simp; omega)).trans f0
  have q1 : (w0.alloc (.cells #[] 9)).frozen? ⟨w.heap.size + 1, 1, none⟩ = false := (hal.frozen (p := ⟨w.heap.size + 1, 1, none⟩) (by simp; omega)).trans f1
  clear hal
  have HOWN := Lib.hid (World.ownsRow_lit (e := 9) (size := 1) (base := w.heap.size + 2) w0 #[] 0 hs2 (by unfold maxLen; omega) rfl)
  have HNW := Lib.hid (strs_news HC.out (.cells #[] 9))
  have HNE : Hid (∀ k, k < w.heap.size + 2 → some k ≠ (some w0.heap.size : Option Nat)) := Lib.hid fun k hk e => by injection e with e; omega
  go_region_law (refine step_append_lies _ (by rfl) _ _ _ (by rfl) (w.heap.size + 2) 9 i0 _ 1 16 Try.underlying76 hi hz0 hz1 hz2 rfl (by omega) _ _ _ (by rfl) HOWN.out.drew ⟨b, off, none⟩ m cap (strsV ls) (by rfl) HL.out HNW.out H1.out h0 (by unfold maxLen; omega) (by omega) (by simp; omega) (w0.heap.size + 1) (by simp) ?_; intro gg cap1 w3 hown3 hgrow3 hat hlt1; have j1 := hgrow3.cell (a := ⟨w.heap.size, 0, none⟩) p0 (HNE.out w.heap.size (by omega)); have j2 := hgrow3.cell (a := ⟨w.heap.size, 1, none⟩) p1 (HNE.out w.heap.size (by omega)); have j3 := hgrow3.cell (a := ⟨w.heap.size + 1, 0, none⟩) e0 (HNE.out (w.heap.size + 1) (by omega)); have j4 := hgrow3.cell (a := ⟨w.heap.size + 1, 1, none⟩) e1 (HNE.out (w.heap.size + 1) (by omega)); have k3 := (hgrow3.frozen_far ⟨w.heap.size + 1, 0, none⟩ (by simp; omega) (HNE.out (w.heap.size + 1) (by omega))).trans q0; have k4 := (hgrow3.frozen_far ⟨w.heap.size + 1, 1, none⟩ (by simp; omega) (HNE.out (w.heap.size + 1) (by omega))).trans q1)
  all_goals
    have hg : w.heap.size + 2 ≤ gg := by
      rcases hat with h | h
      · simp [Value.ownBlock] at h; omega
      · omega
    have hbb : Below w.heap.size w w3 := ((hbw.alloc (by omega) _).drew).grown hgrow3 (by simp; omega) (fun k hk => by simp [Value.ownBlock] at hk; omega)
    have hst : StrAt w3 gg 0 ls := by
      obtain ⟨g2, c2, hv, hn, hgb, hs⟩ := own_strs (ls := ls) (by simpa using hown3) (by omega)
      injection hv with hv _ _
      injection hv with hv
      injection hv with hv
      rw [hv]; exact hs
    clear hown3 hgrow3 hat
    have hlen : ls.length = m := HM.out.symm
    have r0 : ((w3.setCell ⟨w.heap.size + 1, 0, none⟩ (.int .i64 a)).setCell ⟨w.heap.size + 1, 1, none⟩ (.slice (some ⟨gg, 0, none⟩) m cap1)).cell? ⟨w.heap.size + 1, 0, none⟩ = some (.int .i64 a) := by rw [set_other (addr_ne (by omega)), set_same j3]
    have r1 : ((w3.setCell ⟨w.heap.size + 1, 0, none⟩ (.int .i64 a)).setCell ⟨w.heap.size + 1, 1, none⟩ (.slice (some ⟨gg, 0, none⟩) m cap1)).cell? ⟨w.heap.size + 1, 1, none⟩ = some (.slice (some ⟨gg, 0, none⟩) m cap1) := by
      refine set_same (u := .slice none 0 0) ?_
      rw [set_other (addr_ne (by omega)), j4]
    have rb : Below w.heap.size w ((w3.setCell ⟨w.heap.size + 1, 0, none⟩ (.int .i64 a)).setCell ⟨w.heap.size + 1, 1, none⟩ (.slice (some ⟨gg, 0, none⟩) m cap1)) := (hbb.setCell (p := ⟨w.heap.size + 1, 0, none⟩) (Nat.le_succ _) _).setCell (p := ⟨w.heap.size + 1, 1, none⟩) (Nat.le_succ _) _
    have hst2 : StrAt ((w3.setCell ⟨w.heap.size + 1, 0, none⟩ (.int .i64 a)).setCell ⟨w.heap.size + 1, 1, none⟩ (.slice (some ⟨gg, 0, none⟩) m cap1)) gg 0 ls := by
      have e1 : ∀ o j, (⟨w.heap.size + 1, o, none⟩ : Addr) ≠ ⟨gg, 0 + j, none⟩ := fun o j e => by injection e with e1; omega
      refine ⟨by simpa using hst.1, fun j hj => ?_⟩
      rw [set_other (e1 _ _), set_other (e1 _ _)]
      exact hst.2 j hj
    have R0 := Lib.hid r0; have R1 := Lib.hid r1; have RB := Lib.hid rb; have RS := Lib.hid hst2; have HG := Lib.hid hg
    clear r0 r1 rb hst2 hst hbb hg
    go_wp2
    refine bodyPost_ret (v := .agg #[.int .i64 a, .slice (some ⟨gg, 0, none⟩) m cap1]) (by simp [results, Try.f53, go_sem, R0.out, R1.out]) rfl ⟨gg, cap1, by rw [HM.out], RS.out, by have := HG.out; omega, RB.out⟩
end Go.Proofs.Ytkpfocgcnehajaa
