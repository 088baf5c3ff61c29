/- The reference's Text of a state. By an AI agent. -/
import Derived.Test.YtkpfocgcnehajaaAft
import Derived.Test.YtkpfocgcnehajaaRRun
import Derived.Test.YtkpfocgcnehajaaRunA
import Derived.Test.YtkpfocgcnehajaaLsts
namespace Go.Proofs.Ytkpfocgcnehajaa
open Go.RowKit Pl

/-- what Text of a state returns -/
def TextSOut (w : World) (st : St) (e : Ending) (w' : World) : Prop :=
  ∃ B cap, e = .returned (.agg #[.int .i64 (st.at_ : Int), .slice (some ⟨B, 0, none⟩) 32 cap]) ∧ StrAt w' B 0 (regTexts st) ∧ Below w.heap.size w w'
theorem far3 {w1 w2 : World} {ob : Obj} {row : Option Nat} {B o : Nat} {x : Value} (hg : (w1.alloc ob).grownBy w2 row) (hne : some B ≠ row) (h : w1.cell? ⟨B, o, none⟩ = some x) : w2.cell? ⟨B, o, none⟩ = some x := by
  exact hg.cell (a := ⟨B, o, none⟩) (cell_keep (w := w1) ((Below.refl _ _).alloc (Nat.le_refl _) ob) h) hne
theorem far3f {w1 w2 : World} {ob : Obj} {row : Option Nat} {B o : Nat} {x : Value} (hg : (w1.alloc ob).grownBy w2 row) (hne : some B ≠ row) (h : w1.cell? ⟨B, o, none⟩ = some x) (hf : w1.frozen? ⟨B, o, none⟩ = false) : w2.frozen? ⟨B, o, none⟩ = false := by
  have hl := World.block_lt_of_cell? _ _ h
  rw [hg.frozen_far ⟨B, o, none⟩ (by simp; exact Nat.lt_succ_of_lt hl) hne, ← hf]
  exact ((Below.refl w1.heap.size w1).alloc (Nat.le_refl _) ob).frozen (p := ⟨B, o, none⟩) hl
theorem strs_take {ls : List (List UInt8)} {k : Nat} (h : k < ls.length) : strsV (ls.take (k + 1)) = strsV (ls.take k) ++ [.string (S (ls.getD k []))] := by
  unfold strsV
  rw [List.take_add_one, List.map_append, List.getD, List.getElem?_eq_getElem h]
  rfl
theorem textS_close {w wr w2 w3 : World} {N k : Nat} {at_ : Int} {v nv : Value} {ob o0 : Obj} {xs ys : List Value} (hA : wr.heap[N]? = some o0) (hB : wr.heap[N + 1]? = some (.cells #[.int .i64 at_, v] 78 (0, 0))) (hBL : Below N w wr) (hZ : N + 2 ≤ wr.heap.size)
    (hO : wr.ownsRow (N + 2) 9 1 v k xs) (hb2 : Below wr.drew.heap.size wr.drew w2) (hg : (w2.alloc ob).grownBy w3 v.ownBlock) (ho : w3.ownsRow (N + 2) 9 1 nv (k + 1) ys) :
    (w3.setCell ⟨N + 1, 1, none⟩ nv).heap[N]? = some o0 ∧ (w3.setCell ⟨N + 1, 1, none⟩ nv).heap[N + 1]? = some (.cells #[.int .i64 at_, nv] 78 (0, 0)) ∧ (w3.setCell ⟨N + 1, 1, none⟩ nv).ownsRow (N + 2) 9 1 nv (k + 1) ys ∧ Below N w (w3.setCell ⟨N + 1, 1, none⟩ nv) ∧ N + 2 ≤ (w3.setCell ⟨N + 1, 1, none⟩ nv).heap.size := by
  have hs2 : N + 2 ≤ w2.heap.size := by have := hb2.size; simp at this; omega
  have h1 : Below (N + 2) wr w2 := (Below.refl (N + 2) wr).drew.trans (hb2.mono (by simpa using hZ))
  have h2 : Below (N + 2) wr w3 := (h1.alloc hs2 ob).grown hg (by simp; omega) (fun g h => (hO.lt g h).1)
  have h3 : Below N w w3 := hBL.trans (h2.mono (by omega))
  have hs3 : N + 2 ≤ w3.heap.size := Nat.le_trans hZ h2.size
  have hB3 := (h2.block (N + 1) (by omega)).trans hB
  refine ⟨?_, ?_, ownsRow_setCell_below ho (a := ⟨N + 1, 1, none⟩) (Nat.lt_succ_self _) nv, h3.setCell (p := ⟨N + 1, 1, none⟩) (Nat.le_succ N) nv, by simpa using hs3⟩
  · rw [Below.heap_setCell _ _ _ _ (by simp), h2.block N (by omega)]; exact hA
  · exact Lib.heap_setCell_same (i := 1) hB3 nv
set_option maxHeartbeats 3200000 in
set_option maxRecDepth 100000 in
theorem rTextS_any (w : World) (s R n : Nat) (st : St) (hp : w.cell? ⟨s, 0, none⟩ = some (.int .i64 (st.at_ : Int))) (hrv : ∃ rc, w.cell? ⟨s, 1, none⟩ = some (.slice (some ⟨R, 0, none⟩) 32 rc))
    (hr : ∀ r, r < 32 → ∃ x, w.cell? ⟨R, r, none⟩ = some x ∧ NodeW 145 w (st.regs[r]?.getD .nil) x) (hok : st.ok n) :
    Calls Try.prog 59 #[.pointer (some ⟨s, 0, none⟩)] w (TextSOut w st) := by
  obtain ⟨i0, hi, hz0, hz1, hz2⟩ := info_parts Try.infoStr
  obtain ⟨rc, hrv⟩ := hrv
  generalize hat : (st.at_ : Int) = at_ at *
  have HRR := Lib.hid hr; have HOK := Lib.hid hok; have HAT := Lib.hid hat
  have hb1 : Below w.heap.size w (w.alloc (.cells #[.int .i64 0, .slice none 0 0] 78)) := (Below.refl _ _).alloc (Nat.le_refl _) _
  have hp1 := cell_keep hb1 hp
  have hb2 : Below w.heap.size w ((w.alloc (.cells #[.int .i64 0, .slice none 0 0] 78)).alloc (.cells #[.int .i64 at_, .slice none 0 0] 78)) := hb1.alloc (by simp) _
  have HM2 : Hid (((w.alloc (.cells #[.int .i64 0, .slice none 0 0] 78)).alloc (.cells #[.int .i64 at_, .slice none 0 0] 78)).heap[w.heap.size]? = some (.cells #[.int .i64 0, .slice none 0 0] 78 (0, 0))) := Lib.hid ((Lib.alloc_old _ _ _ (by simp)).trans (heap_alloc_new w _))
  have HM3 : Hid (((w.alloc (.cells #[.int .i64 0, .slice none 0 0] 78)).alloc (.cells #[.int .i64 at_, .slice none 0 0] 78)).heap[w.heap.size + 1]? = some (.cells #[.int .i64 at_, .slice none 0 0] 78 (0, 0))) := Lib.hid (by have h1 := heap_alloc_new (w.alloc (.cells #[.int .i64 0, .slice none 0 0] 78)) (.cells #[.int .i64 at_, .slice none 0 0] 78 (0, 0)); simpa using h1)
  have hz2 : w.heap.size + 2 ≤ ((w.alloc (.cells #[.int .i64 0, .slice none 0 0] 78)).alloc (.cells #[.int .i64 at_, .slice none 0 0] 78)).heap.size := by simp
  have HRV := Lib.hid hrv; have HB2 := Lib.hid hb2; have HZ2 := Lib.hid hz2
  clear hr hok hrv hb1 hb2 hp hz2 hat
  go_enter Try.func59, Try.ntmps59
  go_wp2_with fail
  generalize (w.alloc (.cells #[.int .i64 0, .slice none 0 0] 78)).alloc (.cells #[.int .i64 at_, .slice none 0 0] 78) = w0 at *
  generalize hN : w.heap.size = N at *
  have HN := Lib.hid hN
  clear hN hp1
  go_loopw [4] (fun i wr => ∃ (k : Nat) (v : Value), k ≤ 32 ∧ i = .int .i64 k ∧ Hid (wr.heap[N]? = some (.cells #[.int .i64 0, .slice none 0 0] 78 (0, 0))) ∧ Hid (wr.heap[N + 1]? = some (.cells #[.int .i64 at_, v] 78 (0, 0))) ∧ Hid (wr.ownsRow (N + 2) 9 1 v k (strsV ((regTexts st).take k))) ∧ Below N w wr ∧ Hid (N + 2 ≤ wr.heap.size)) (fun i _ => 32 - (intOf i).toNat)
  case atStart => exact ⟨0, _, Nat.zero_le _, rfl, HM2, HM3, Lib.hid (World.ownsRow_nil _ _ _ _), HB2.out, HZ2⟩
  case round =>
    obtain ⟨k, v, hk, rfl, HA, HB, HO, hb, HZ⟩ := hrel
    have cs : wr.cell? ⟨s, 1, none⟩ = some (.slice (some ⟨R, 0, none⟩) 32 rc) := cell_keep (by rw [HN.out]; exact hb) HRV.out
    by_cases hlt : k < 32
    · obtain ⟨x, hx, hnx⟩ := HRR.out k hlt
      obtain ⟨X, rfl⟩ := hnx.one
      have cx : wr.cell? ⟨R, k, none⟩ = some (.pointer X) := cell_keep (by rw [HN.out]; exact hb) hx
      have cv : wr.cell? ⟨N + 1, 1, none⟩ = some v := Lib.cell_of_heap HB.out 1
      have HT := Lib.hid (fun W (h : Below wr.heap.size wr W) => rText_any (st.regs[k]?.getD .nil) (.pointer X) W ((NodeW.below hnx (by rw [HN.out]; exact hb)).below h) (by
        obtain ⟨_, h32, hreg⟩ := HOK.out
        rw [List.getElem?_eq_getElem (by omega)]
        exact hreg _ (List.getElem_mem _)))
      have hk1 : (k : Int) < 32 := by omega
      have hk0 : (0 : Int) ≤ (k : Int) := by omega
      have HX := Lib.hid hx
      have CS := Lib.hid cs; have CX := Lib.hid cx; have CV := Lib.hid cv
      have HBL := Lib.hid hb
      clear hx hnx hb
      go_wp2_with fail
      have hRN : R < N := by rw [← HN.out]; exact World.block_lt_of_cell? _ _ HX.out
      have hsN : s < N := by rw [← HN.out]; exact World.block_lt_of_cell? _ _ HRV.out
      have HNE : Hid (∀ b, b < N + 2 → some b ≠ v.ownBlock) := Lib.hid fun b hb e => by have := (HO.out.lt b e.symm).1; omega
      have hsz2 : N + 2 ≤ wr.heap.size := HZ.out
      have HF : Hid (wr.frozen? ⟨N + 1, 1, none⟩ = false) := Lib.hid (by simp [World.frozen?, HB.out])
      go_region_law
        (first
          | (go_simp; go_at_call 109; refine (HT.out _ (by first | exact Below.refl _ _ | exact (Below.refl _ _).drew)).mono ?_; rintro e w2 ⟨rfl, hb2⟩; have g1 := cell_keep hb2 CV.out; have g2 := cell_keep hb2 CS.out; have g3 := cell_keep hb2 CX.out; have g4 := (hb2.frozen (p := ⟨N + 1, 1, none⟩) (cell_lt CV.out)).trans HF.out; have g6 : (w2.alloc (.cells #[.string (S (tx (st.regs[k]?.getD .nil)))] 9)).cell? ⟨N + 1, 1, none⟩ = some v := cell_keep (w := w2) ((Below.refl _ _).alloc (Nat.le_refl _) _) g1)
          | (refine step_append_lies _ (by rfl) _ _ _ (by rfl) (N + 2) 9 i0 _ 1 16 Try.underlying76 hi hz0 hz1 hz2 rfl (by omega) _ _ _ (by rfl) ((own_below HO.out.drew hb2).alloc _) ⟨w2.heap.size, 0, none⟩ 1 1 [.string (S (tx (st.regs[k]?.getD .nil)))] (by rfl) (by rfl) (World.news_of_block (cs := #[.string (S (tx (st.regs[k]?.getD .nil)))]) (t := 9) (fr := (0, 0)) (heap_alloc_new w2 _)) (by simp [Value.oneCell']) (by omega) (by unfold maxLen; omega) (by omega) (by have := hb2.size; simp at this; simp; omega) (w2.heap.size + 1) (by simp) ?_; intro gg cap1 w3 hown3 hgrow3 hat hlt1; have j1 := far3 hgrow3 (HNE.out _ (by omega)) g1; have j2 := far3 hgrow3 (HNE.out _ (by omega)) g2; have j3 := far3 hgrow3 (HNE.out _ (by omega)) g3; have j4 := far3f hgrow3 (HNE.out _ (by omega)) g1 g4))
      all_goals
        have hfin := Lib.hid (textS_close HA.out HB.out HBL.out HZ.out HO.out hb2 hgrow3 hown3)
        clear g1 g2 g3 g4 g6 j2 j3 hgrow3 hown3 hat hlt1 hb2
        go_wp2
        obtain ⟨q1, q2, q3, q4, q5⟩ := hfin.out
        refine ⟨⟨k + 1, _, by omega, by go_num, Lib.hid q1, Lib.hid q2, Lib.hid ?_, q4, Lib.hid q5⟩, by simp [intOf]; omega⟩
        rw [strs_take (by simp [regTexts]; have := HOK.out.2.1; omega)]
        have he : (regTexts st).getD k [] = tx (st.regs[k]?.getD .nil) := by
          have := HOK.out.2.1
          simp [regTexts, List.getD, show k < st.regs.length by omega]
        rw [he]
        exact q3
    · obtain rfl : k = 32 := by omega
      have d0 : wr.cell? ⟨N + 1, 0, none⟩ = some (.int .i64 at_) := Lib.cell_of_heap HB.out 0
      have d1 : wr.cell? ⟨N + 1, 1, none⟩ = some v := Lib.cell_of_heap HB.out 1
      have a0 : wr.cell? ⟨N, 0, none⟩ = some (.int .i64 0) := Lib.cell_of_heap HA.out 0
      have a1 : wr.cell? ⟨N, 1, none⟩ = some (.slice none 0 0) := Lib.cell_of_heap HA.out 1
      have f0 : wr.frozen? ⟨N, 0, none⟩ = false := by simp [World.frozen?, HA.out]
      have f1 : wr.frozen? ⟨N, 1, none⟩ = false := by simp [World.frozen?, HA.out]
      have p0 : ((wr.setCell ⟨N, 0, none⟩ (.int .i64 at_)).setCell ⟨N, 1, none⟩ v).cell? ⟨N, 0, none⟩ = some (.int .i64 at_) := by rw [set_other (addr_ne (by omega)), set_same a0]
      have p1 : ((wr.setCell ⟨N, 0, none⟩ (.int .i64 at_)).setCell ⟨N, 1, none⟩ v).cell? ⟨N, 1, none⟩ = some v := by
        refine set_same (u := .slice none 0 0) ?_
        rw [set_other (addr_ne (by omega)), a1]
      have pb : Below N w ((wr.setCell ⟨N, 0, none⟩ (.int .i64 at_)).setCell ⟨N, 1, none⟩ v) := (hb.setCell (p := ⟨N, 0, none⟩) (Nat.le_refl N) _).setCell (p := ⟨N, 1, none⟩) (Nat.le_refl N) _
      obtain ⟨g, cap, hv, hn32, hg, hsa⟩ := own_strs HO.out (by decide)
      rw [← hn32] at hv
      subst hv
      have HSA := Lib.hid hsa; have HG := Lib.hid hg
      have P0 := Lib.hid p0; have P1 := Lib.hid p1; have PB := Lib.hid pb
      clear p0 p1 pb hb hsa hg hn32
      go_wp2
      refine bodyPost_ret (v := .agg #[.int .i64 at_, .slice (some ⟨g, 0, none⟩) 32 cap]) (by simp [results, Try.f59, go_sem, P0.out, P1.out]) rfl ⟨g, cap, by rw [HAT.out], ?_, by rw [HN.out]; exact PB.out⟩
      have h32 : (regTexts st).length = 32 := by simp [regTexts, HOK.out.2.1]
      have hs := HSA.out
      rw [List.take_of_length_le (by omega)] at hs
      refine ⟨by simpa using hs.1, fun j hj => ?_⟩
      have e1 : ∀ o, (⟨N, o, none⟩ : Addr) ≠ ⟨g, 0 + j, none⟩ := fun o e => by injection e with e1; have := HG.out; omega
      rw [set_other (e1 _), set_other (e1 _)]
      exact hs.2 j hj
end Go.Proofs.Ytkpfocgcnehajaa
