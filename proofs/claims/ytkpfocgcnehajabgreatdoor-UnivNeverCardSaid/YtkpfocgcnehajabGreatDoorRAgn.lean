/- The reference's Again: are two states the same? By an AI agent. -/
import Derived.Test.YtkpfocgcnehajabGreatDoorREqA
import Derived.Test.YtkpfocgcnehajabGreatDoorRRun
namespace Go.Proofs.YtkpfocgcnehajabGreatDoor
open Go.RowKit Pl

/-- a state as Again reads it -/
structure RA (w : World) (s R : Nat) (st : St) : Prop where
  place : w.cell? ⟨s, 0, none⟩ = some (.int .i64 (st.at_ : Int))
  regsv : ∃ rc, w.cell? ⟨s, 1, none⟩ = some (.slice (some ⟨R, 0, none⟩) 32 rc)
  regs : ∀ r, r < 32 → ∃ x, w.cell? ⟨R, r, none⟩ = some x ∧ NodeW 72 w (st.regs[r]?.getD .nil) x
theorem RA.below {w w' : World} {s R : Nat} {st : St} (h : RA w s R st) (hb : Below w.heap.size w w') : RA w' s R st :=
  ⟨cell_keep hb h.place, by obtain ⟨rc, h1⟩ := h.regsv; exact ⟨rc, cell_keep hb h1⟩, fun r hr => by obtain ⟨x, h1, h2⟩ := h.regs r hr; exact ⟨x, cell_keep hb h1, NodeW.below h2 hb⟩⟩
set_option maxHeartbeats 3200000 in
set_option maxRecDepth 100000 in
theorem rAgain_any (w : World) (s1 R1 s2 R2 n : Nat) (st1 st2 : St) (h1 : RA w s1 R1 st1) (h2 : RA w s2 R2 st2) (k1 : st1.ok n) (k2 : st2.ok n) :
    Calls Tryz.prog 90 #[.pointer (some ⟨s1, 0, none⟩), .pointer (some ⟨s2, 0, none⟩)] w fun e w' => ∃ b : Bool, e = .returned (.bool b) ∧ (b = true → st1 = st2) ∧ Below w.heap.size w w' := by
  have p1 := h1.place; have p2 := h2.place
  obtain ⟨rc1, q1⟩ := h1.regsv
  obtain ⟨rc2, q2⟩ := h2.regsv
  have H1 := Lib.hid h1; have H2 := Lib.hid h2; have K1 := Lib.hid k1; have K2 := Lib.hid k2
  clear h1 h2 k1 k2
  by_cases hat : st1.at_ = st2.at_
  · have e0 : ((st1.at_ : Int) != (st2.at_ : Int)) = false := by simp [hat]
    have HAT := Lib.hid hat
    clear hat
    go_enter Tryz.func90, Tryz.ntmps90
    go_wp2_with fail
    go_quiet (fail)
    go_wp2
    go_loopw [5] (fun i wr => ∃ r : Nat, r ≤ 32 ∧ i = .int .i64 (r : Int) ∧ Hid (∀ j, j < r → st1.regs[j]?.getD .nil = st2.regs[j]?.getD .nil) ∧ Hid (Below w.heap.size w wr)) (fun i _ => 32 - (intOf i).toNat)
    case atStart => exact ⟨0, Nat.zero_le _, rfl, Lib.hid (fun j h => by omega), Lib.hid (bdrewN (Below.refl _ _) _)⟩
    case round =>
      obtain ⟨r, hr, rfl, HS, HB⟩ := hrel
      have J1 := Lib.hid (H1.out.below HB.out); have J2 := Lib.hid (H2.out.below HB.out)
      obtain ⟨d1, g1⟩ := J1.out.regsv
      obtain ⟨d2, g2⟩ := J2.out.regsv
      by_cases hlt : r < 32
      · obtain ⟨x1, c1, n1⟩ := J1.out.regs r hlt
        obtain ⟨x2, c2, n2⟩ := J2.out.regs r hlt
        obtain ⟨X1, rfl⟩ := n1.one
        obtain ⟨X2, rfl⟩ := n2.one
        have N1 := Lib.hid n1; have N2 := Lib.hid n2
        have hr1 : (r : Int) < 32 := by omega
        have hr2 : ((r : Int)).toNat = r := by omega
        have hr3 : r < 32 := hlt
        have HEQ := Lib.hid (fun W (a1 : NodeW 72 W (st1.regs[r]?.getD .nil) (.pointer X1)) (a2 : NodeW 72 W (st2.regs[r]?.getD .nil) (.pointer X2)) => rEqual_any W _ _ _ _ a1 a2 (by
          have l1 : r < st1.regs.length := by rw [K1.out.2.1]; exact hlt
          have l2 : r < st2.regs.length := by rw [K2.out.2.1]; exact hlt
          have b1 := K1.out.2.2 _ (List.getElem_mem l1)
          have b2 := K2.out.2.2 _ (List.getElem_mem l2)
          rw [List.getElem?_eq_getElem l1, List.getElem?_eq_getElem l2]
          show (tx st1.regs[r]).length + (tx st2.regs[r]).length ≤ 4000000
          omega))
        clear n1 n2 p1 p2 q1 q2
        go_wp2_with fail
        go_still_tail 14, (by kernel_rfl)
        go_wp2_with fail
        refine (HEQ.out _ (NodeW.keep N1.out (KeepT.drewN _ wr 1)) (NodeW.keep N2.out (KeepT.drewN _ wr 1))).mono ?_
        rintro e w2 ⟨b, rfl, hb, hB2⟩
        have HB2 := Lib.hid (bstep (bdrewN HB.out 1) hB2)
        cases b with
        | false =>
          clear hb hB2 g1 g2 c1 c2
          go_wp2_with fail
          go_ret
          exact ⟨false, rfl, fun h => Bool.noConfusion h, HB2.out⟩
        | true =>
          have HS2 : Hid (∀ j, j < r + 1 → st1.regs[j]?.getD .nil = st2.regs[j]?.getD .nil) := Lib.hid (fun j hj => by
            by_cases e : j = r
            · subst e; exact hb.1 rfl
            · exact HS.out j (by omega))
          clear hb hB2 g1 g2 c1 c2
          go_wp2_with fail
          go_roundw
          case rel => exact ⟨r + 1, by omega, by go_num, HS2, HB2⟩
          case measure => simp [intOf]; omega
      · obtain rfl : r = 32 := by omega
        clear p1 p2 q1 q2
        go_wp2
        go_ret
        refine ⟨true, rfl, fun _ => ?_, HB.out⟩
        have hrg : st1.regs = st2.regs := by
          apply List.ext_getElem (by rw [K1.out.2.1, K2.out.2.1])
          intro j l1 l2
          have hj := HS.out j (by rw [K1.out.2.1] at l1; exact l1)
          rw [List.getElem?_eq_getElem l1, List.getElem?_eq_getElem l2] at hj
          exact hj
        have ha := HAT.out
        cases st1; cases st2
        simp only at ha hrg
        subst ha; subst hrg; rfl
  · have e0 : ((st1.at_ : Int) != (st2.at_ : Int)) = true := by rw [bne_iff_ne]; omega
    have HAT := Lib.hid hat
    clear hat
    go_enter Tryz.func90, Tryz.ntmps90
    go_wp2_with fail
    go_quiet (fail)
    go_wp2
    go_ret
    exact ⟨false, rfl, fun h => Bool.noConfusion h, bdrewN (Below.refl _ _) _⟩
end Go.Proofs.YtkpfocgcnehajabGreatDoor
