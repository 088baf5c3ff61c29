/- The reference's Read of a state. By an AI agent. -/
import Derived.Test.YtkpfocgcnehajaaRTextS
import Derived.Test.YtkpfocgcnehajaaVState
namespace Go.Proofs.Ytkpfocgcnehajaa
open Go.RowKit Pl

theorem readS_close {w wr w2 w3 : World} {N k : Nat} {at_ : Int} {v nv : Value} {ob o0 : Obj} {xs ys : List Value} (hA : wr.heap[N]? = some o0) (hB : wr.heap[N + 1]? = some (.cells #[.int .i64 at_, v] 139 (0, 0))) (hBL : Below N w wr) (hZ : N + 2 ≤ wr.heap.size)
    (hO : wr.ownsRow (N + 2) 88 1 v k xs) (hb2 : Below wr.drew.heap.size wr.drew w2) (hg : (w2.alloc ob).grownBy w3 v.ownBlock) (ho : w3.ownsRow (N + 2) 88 1 nv (k + 1) ys) :
    (w3.setCell ⟨N + 1, 1, none⟩ nv).heap[N]? = some o0 ∧ (w3.setCell ⟨N + 1, 1, none⟩ nv).heap[N + 1]? = some (.cells #[.int .i64 at_, nv] 139 (0, 0)) ∧ (w3.setCell ⟨N + 1, 1, none⟩ nv).ownsRow (N + 2) 88 1 nv (k + 1) ys ∧ Below N w (w3.setCell ⟨N + 1, 1, none⟩ nv) ∧ N + 2 ≤ (w3.setCell ⟨N + 1, 1, none⟩ nv).heap.size ∧
      ∀ t x, NodeW 145 w2 t x → NodeW 145 (w3.setCell ⟨N + 1, 1, none⟩ nv) t x := by
  have hs2 : N + 2 ≤ w2.heap.size := by have := hb2.size; simp at this; omega
  have h1 : Below (N + 2) wr w2 := (Below.refl (N + 2) wr).drew.trans (hb2.mono (by simpa using hZ))
  have h2 : Below (N + 2) wr w3 := (h1.alloc hs2 ob).grown hg (by simp; omega) (fun g h => (hO.lt g h).1)
  have h3 : Below N w w3 := hBL.trans (h2.mono (by omega))
  have hs3 : N + 2 ≤ w3.heap.size := Nat.le_trans hZ h2.size
  have hB3 := (h2.block (N + 1) (by omega)).trans hB
  have hO2 : (w2.alloc ob).ownsRow (N + 2) 88 1 v k xs := (own_below hO.drew hb2).alloc _
  refine ⟨?_, ?_, ownsRow_setCell_below ho (a := ⟨N + 1, 1, none⟩) (Nat.lt_succ_self _) nv, h3.setCell (p := ⟨N + 1, 1, none⟩) (Nat.le_succ N) nv, by simpa using hs3, fun t x hx => ?_⟩
  · rw [Below.heap_setCell _ _ _ _ (by simp), h2.block N (by omega)]; exact hA
  · exact Lib.heap_setCell_same (i := 1) hB3 nv
  · have hk1 : KeepT 145 (w2.alloc ob) w3 := app_keep hO2 hg (by decide)
    have htag : TagB w3 (N + 1) 139 := ⟨_, _, hB3⟩
    exact NodeW.keep hx (((KeepT.alloc _ _ ob).trans hk1).trans (KeepT.setCell (htag.ne (by decide)) _))
/-- what Read of a state returns -/
def ReadSOut (w : World) (st : St) (e : Ending) (w' : World) : Prop := ∃ s R, e = .returned (.pointer (some ⟨s, 0, none⟩)) ∧ RS w' s R st ∧ w.heap.size ≤ s ∧ w.heap.size ≤ R ∧ Below w.heap.size w w'
set_option maxHeartbeats 3200000 in
set_option maxRecDepth 100000 in
theorem rReadS_any (w : World) (a b0 off0 cap0 : Nat) (ls : List (List UInt8)) (hs : StrAt w b0 off0 ls) (h32 : ls.length = 32) (hf : ∀ l ∈ ls, vld l = true) :
    Calls Try.prog 64 #[.agg #[.int .i64 (a : Int), .slice (some ⟨b0, off0, none⟩) 32 cap0]] w (ReadSOut w ⟨a, ls.map rd⟩) := by
  obtain ⟨i0, hi, hz0, hz1, hz2⟩ := info_parts Try.infoRNode
  have HSA := Lib.hid hs; have H32 := Lib.hid h32; have HF := Lib.hid hf
  have hb2 : Below w.heap.size w ((w.alloc (.cells #[.int .i64 (a : Int), .slice (some ⟨b0, off0, none⟩) 32 cap0] 78)).alloc (.cells #[.int .i64 (a : Int), .slice none 0 0] 139)) := ((Below.refl _ _).alloc (Nat.le_refl _) _).alloc (by simp) _
  have HM2 : Hid (((w.alloc (.cells #[.int .i64 (a : Int), .slice (some ⟨b0, off0, none⟩) 32 cap0] 78)).alloc (.cells #[.int .i64 (a : Int), .slice none 0 0] 139)).heap[w.heap.size]? = some (.cells #[.int .i64 (a : Int), .slice (some ⟨b0, off0, none⟩) 32 cap0] 78 (0, 0))) := Lib.hid ((Lib.alloc_old _ _ _ (by simp)).trans (heap_alloc_new w _))
  have HM3 : Hid (((w.alloc (.cells #[.int .i64 (a : Int), .slice (some ⟨b0, off0, none⟩) 32 cap0] 78)).alloc (.cells #[.int .i64 (a : Int), .slice none 0 0] 139)).heap[w.heap.size + 1]? = some (.cells #[.int .i64 (a : Int), .slice none 0 0] 139 (0, 0))) := Lib.hid (by have h1 := heap_alloc_new (w.alloc (.cells #[.int .i64 (a : Int), .slice (some ⟨b0, off0, none⟩) 32 cap0] 78)) (.cells #[.int .i64 (a : Int), .slice none 0 0] 139 (0, 0)); simpa using h1)
  have HZ2 := Lib.hid (show w.heap.size + 2 ≤ ((w.alloc (.cells #[.int .i64 (a : Int), .slice (some ⟨b0, off0, none⟩) 32 cap0] 78)).alloc (.cells #[.int .i64 (a : Int), .slice none 0 0] 139)).heap.size by simp)
  have HB2 := Lib.hid hb2
  clear hs h32 hf hb2
  go_enter Try.func64, Try.ntmps64
  go_wp2_with fail
  generalize (w.alloc (.cells #[.int .i64 (a : Int), .slice (some ⟨b0, off0, none⟩) 32 cap0] 78)).alloc (.cells #[.int .i64 (a : Int), .slice none 0 0] 139) = w0 at *
  generalize hN : w.heap.size = N at *
  have HN := Lib.hid hN
  clear hN
  go_loopw [4] (fun i wr => ∃ (k : Nat) (v : Value) (xs : List Value), k ≤ 32 ∧ i = .int .i64 k ∧ Hid (wr.heap[N]? = some (.cells #[.int .i64 (a : Int), .slice (some ⟨b0, off0, none⟩) 32 cap0] 78 (0, 0))) ∧ Hid (wr.heap[N + 1]? = some (.cells #[.int .i64 (a : Int), v] 139 (0, 0))) ∧ Hid (wr.ownsRow (N + 2) 88 1 v k xs) ∧ Hid (∀ j, j < k → ∃ x, xs[j]? = some x ∧ NodeW 145 wr (rd (ls.getD j [])) x) ∧ Below N w wr ∧ Hid (N + 2 ≤ wr.heap.size)) (fun i _ => 32 - (intOf i).toNat)
  case atStart => exact ⟨0, _, [], Nat.zero_le _, rfl, HM2, HM3, Lib.hid (World.ownsRow_nil _ _ _ _), Lib.hid (fun j hj => absurd hj (by omega)), HB2.out, HZ2⟩
  case round =>
    obtain ⟨k, v, xs, hk, rfl, HA, HB, HO, HX, hb, HZ⟩ := hrel
    have cs : wr.cell? ⟨N, 1, none⟩ = some (.slice (some ⟨b0, off0, none⟩) 32 cap0) := Lib.cell_of_heap HA.out 1
    by_cases hlt : k < 32
    · have cx := (HSA.out.below (by rw [HN.out]; exact hb)).2 k (by rw [H32.out]; exact hlt)
      have hvk : vld (ls.getD k []) = true := HF.out _ (by simp [List.getD, H32.out, hlt])
      have cv : wr.cell? ⟨N + 1, 1, none⟩ = some v := Lib.cell_of_heap HB.out 1
      have HT := Lib.hid (fun W => rRead_any (S (ls.getD k [])) W (by simpa using hvk))
      have hk1 : (k : Int) < 32 := by omega
      have hk0 : (0 : Int) ≤ (k : Int) := by omega
      have CS := Lib.hid cs; have CX := Lib.hid cx; have CV := Lib.hid cv
      have HBL := Lib.hid hb
      clear hb hvk
      generalize hL : ls.getD k [] = l at *
      have HLK := Lib.hid hL
      clear hL
      go_wp2_with fail
      have HNE : Hid (∀ b, b < N + 2 → some b ≠ v.ownBlock) := Lib.hid fun b hb e => by have := (HO.out.lt b e.symm).1; omega
      have hsz2 : N + 2 ≤ wr.heap.size := HZ.out
      have HFZ : Hid (wr.frozen? ⟨N + 1, 1, none⟩ = false) := Lib.hid (by simp [World.frozen?, HB.out])
      go_region_law
        (first
          | (go_simp; go_at_call 61; refine (HT.out _).mono ?_; rintro e w2 ⟨nv, rfl, hn2, hb2⟩; obtain ⟨X, rfl⟩ := hn2.one; have g1 := cell_keep hb2 CV.out; have g2 := cell_keep hb2 CS.out; have g3 := cell_keep hb2 CX.out; have g4 := (hb2.frozen (p := ⟨N + 1, 1, none⟩) (cell_lt CV.out)).trans HFZ.out; have g6 : (w2.alloc (.cells #[.pointer X] 88)).cell? ⟨N + 1, 1, none⟩ = some v := cell_keep (w := w2) ((Below.refl _ _).alloc (Nat.le_refl _) _) g1)
          | (refine step_append_lies _ (by rfl) _ _ _ (by rfl) (N + 2) 88 i0 _ 1 8 Try.underlying137 hi hz0 hz1 hz2 rfl (by omega) _ _ _ (by rfl) ((own_below HO.out.drew hb2).alloc _) ⟨w2.heap.size, 0, none⟩ 1 1 [.pointer X] (by rfl) (by rfl) (World.news_of_block (cs := #[.pointer X]) (t := 88) (fr := (0, 0)) (heap_alloc_new w2 _)) (by simp [Value.oneCell']) (by omega) (by unfold maxLen; omega) (by omega) (by have := hb2.size; simp at this; simp; omega) (w2.heap.size + 1) (by simp) ?_; intro gg cap1 w3 hown3 hgrow3 hat hlt1; have j1 := far3 hgrow3 (HNE.out (N + 1) (by omega)) g1; have j2 := far3 hgrow3 (HNE.out N (by omega)) g2; have j4 := far3f hgrow3 (HNE.out (N + 1) (by omega)) g1 g4))
      all_goals
        have hfin := Lib.hid (readS_close HA.out HB.out HBL.out HZ.out HO.out hb2 hgrow3 hown3)
        have HN2 := Lib.hid hn2
        have HWB := Lib.hid ((Below.refl wr.heap.size wr).drew.trans hb2)
        clear g1 g2 g3 g4 g6 j2 j4 hgrow3 hown3 hat hlt1 hb2 hn2
        go_wp2
        obtain ⟨q1, q2, q3, q4, q5, q6⟩ := hfin.out
        refine ⟨⟨k + 1, _, _, by omega, by go_num, Lib.hid q1, Lib.hid q2, Lib.hid q3, Lib.hid (fun j hj => ?_), q4, Lib.hid q5⟩, by simp [intOf]; omega⟩
        have hxl : xs.length = k := by have := HO.out.1; omega
        by_cases h : j < k
        · obtain ⟨x, h1, h2⟩ := HX.out j h
          exact ⟨x, by rw [List.getElem?_append_left (by omega)]; exact h1, q6 _ _ (NodeW.below h2 HWB.out)⟩
        · obtain rfl : j = k := by omega
          refine ⟨.pointer X, by rw [List.getElem?_append_right (by omega), hxl]; simp, q6 _ _ ?_⟩
          rw [HLK.out]
          have := HN2.out
          simpa using this
    · obtain rfl : k = 32 := by omega
      obtain ⟨g, cap, rfl, hge, _⟩ := HO.out.form (by omega)
      have d0 : wr.cell? ⟨N + 1, 0, none⟩ = some (.int .i64 (a : Int)) := Lib.cell_of_heap HB.out 0
      have d1 : wr.cell? ⟨N + 1, 1, none⟩ = some (.slice (some ⟨g, 0, none⟩) 32 cap) := Lib.cell_of_heap HB.out 1
      have HRS : Hid (RS wr (N + 1) g ⟨a, ls.map rd⟩) := Lib.hid ⟨d0, ⟨cap, d1⟩, fun r hr => by
        obtain ⟨x, h1, h2⟩ := HX.out r hr
        refine ⟨x, by rw [HO.out.cellAt r (by omega)]; exact h1, ?_⟩
        have e : ((ls.map rd)[r]?).getD .nil = rd (ls.getD r []) := by simp [List.getD, H32.out, hr]
        show NodeW _ _ (((ls.map rd)[r]?).getD .nil) _
        rw [e]; exact h2, ⟨_, _, HB.out⟩, own_tag HO.out (k := g) rfl, fun o => Lib.frozen_of_heap HB.out o, fun o => HO.out.frozenAt o⟩
      have HBB := Lib.hid hb
      have HGE := Lib.hid hge
      clear hb d0 d1 hge HA HB HO HX
      go_wp2
      go_ret
      exact ⟨N + 1, g, rfl, HRS.out, by rw [HN.out]; omega, by have := HGE.out; rw [HN.out]; omega, by rw [HN.out]; exact HBB.out⟩
end Go.Proofs.Ytkpfocgcnehajaa
