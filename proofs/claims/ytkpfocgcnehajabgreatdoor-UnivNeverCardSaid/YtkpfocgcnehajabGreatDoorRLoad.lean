/- The reference's Load, First, After and Run. By an AI agent. -/
import Derived.Test.YtkpfocgcnehajabGreatDoorRMach
import Derived.Test.YtkpfocgcnehajabGreatDoorRunB
import Derived.Outline
namespace Go.Proofs.YtkpfocgcnehajabGreatDoor
open Go.RowKit Pl

/-- a loaded program -/
structure RL (w : World) (m C : Nat) (v : Value) (ps : List Ins) : Prop where
  c0 : w.cell? ⟨m, 0, none⟩ = some v
  c1 : w.cell? ⟨m, 1, none⟩ = some (.slice (some ⟨C, 0, none⟩) ps.length ps.length)
  A : ArgP w v ps
  trees : ∀ k x, ps[k]? = some x → x.op = 0 → ∃ y, w.cell? ⟨C, k, none⟩ = some y ∧ NodeW 72 w (rd x.tree) y
  tagm : TagB w m 134
  tagC : TagB w C 33
theorem RL.below {w w' : World} {m C : Nat} {v : Value} {ps : List Ins} (h : RL w m C v ps) (hb : Below w.heap.size w w') : RL w' m C v ps :=
  ⟨cell_keep hb h.c0, cell_keep hb h.c1, h.A.below hb, fun k x hx h0 => by obtain ⟨y, h1, h2⟩ := h.trees k x hx h0; exact ⟨y, cell_keep hb h1, NodeW.below h2 hb⟩, h.tagm.keep (.below hb), h.tagC.keep (.below hb)⟩
def LoadOut (w : World) (v : Value) (ps : List Ins) (e : Ending) (w' : World) : Prop := ∃ m C, e = .returned (.pointer (some ⟨m, 0, none⟩)) ∧ RL w' m C v ps ∧ Below w.heap.size w w'
/-- the same, and the row of trees is new -/
def LoadOutF (w : World) (v : Value) (ps : List Ins) (e : Ending) (w' : World) : Prop := ∃ m C, e = .returned (.pointer (some ⟨m, 0, none⟩)) ∧ RL w' m C v ps ∧ Below w.heap.size w w' ∧ w.heap.size ≤ C
/-- the trees of the first k instructions -/
def RTreesTo (w : World) (ps : List Ins) (k : Nat) (ys : List Value) : Prop := ∀ j x, j < k → ps[j]? = some x → x.op = 0 → ∃ y, ys[j]? = some y ∧ NodeW 72 w (rd x.tree) y
theorem rl_made {w W : World} {m C n0 : Nat} {ps : List Ins} {ys : List Value} {v : Value} (hM : W.heap[m]? = some (.cells #[v, .slice (some ⟨C, 0, none⟩) ps.length ps.length] 134 (0, 0))) (hC : W.ownsRow n0 33 1 (.slice (some ⟨C, 0, none⟩) ps.length ps.length) ps.length ys) (hT : RTreesTo W ps ps.length ys)
    (hA : ArgP w v ps) (hb : Below n0 w W) (hn : n0 = w.heap.size) : RL W m C v ps := by
  subst hn
  refine ⟨by rw [Lib.cell_of_heap hM]; rfl, by rw [Lib.cell_of_heap hM]; rfl, hA.below hb, fun k x hx h0 => ?_, ⟨_, (), hM⟩, own_tag hC rfl⟩
  have hk : k < ps.length := (List.getElem?_eq_some_iff.1 hx).1
  obtain ⟨y, h1, h2⟩ := hT k x hk hx h0
  exact ⟨y, by rw [hC.cellAt k (by omega), h1], h2⟩

set_option maxHeartbeats 3200000 in
set_option maxRecDepth 100000 in
theorem Load_some (w : World) (b off cap : Nat) (ps : List Ins) (hP : ProgAt w b off ps) (h0 : 0 < ps.length) (hv : PValid ps) :
    Calls Tryz.prog 41 #[.slice (some ⟨b, off, none⟩) ps.length cap] w (LoadOutF w (.slice (some ⟨b, off, none⟩) ps.length cap) ps) := by
  obtain ⟨i0, hi, hz0, hz1, hz2⟩ := info_parts Tryz.infoRNode
  have HA : Hid (ArgP w (.slice (some ⟨b, off, none⟩) ps.length cap) ps) := Lib.hid (.inr ⟨h0, b, off, cap, rfl, hP⟩)
  have hm := hv.1
  have HMM := Lib.hid (fun W M C (ys : List Value) => rl_made (w := w) (W := W) (m := M) (C := C) (n0 := w.heap.size) (ps := ps) (ys := ys) (v := .slice (some ⟨b, off, none⟩) ps.length cap))
  obtain ⟨n, hn⟩ : ∃ n, n = ps.length := ⟨_, rfl⟩
  rw [← hn] at HA HMM hm h0 ⊢
  have HN := Lib.hid hn
  have HP := Lib.hid hP; have HV := Lib.hid hv
  have hbw := hP.1
  clear hn hP hv
  go_enter Tryz.func41, Tryz.ntmps41
  go_wp2_with (at_make; refine wpList_make_full _ rfl _ _ 93 rfl w.heap.size 33 i0 (.pointer none) 1 Tryz.underlying93 hi hz0 hz1 .i64 .i64 _ _ n rfl rfl rfl rfl (by rw [hz2]; omega) (by unfold maxLen; omega) (Nat.le_refl _) ?_)
  intro w1 hown hgrow
  have hb1 : Below w.heap.size w w1 := (Below.refl _ _).grown hgrow (Nat.le_refl _) (by simp)
  obtain ⟨xs, HO⟩ : ∃ xs, Hid (w1.ownsRow w.heap.size 33 1 (.slice (some ⟨w.heap.size, 0, none⟩) n n) n xs) := ⟨_, Lib.hid hown⟩
  clear hown hgrow hi hz0 hz1 hz2
  have hsz1 := hb1.size
  have HM1 : Hid ((w1.alloc (.cells #[.slice (some ⟨b, off, none⟩) n cap, .slice (some ⟨w.heap.size, 0, none⟩) n n] 134)).heap[w1.heap.size]? = some (.cells #[.slice (some ⟨b, off, none⟩) n cap, .slice (some ⟨w.heap.size, 0, none⟩) n n] 134 (0, 0))) := Lib.hid (heap_alloc_new _ _)
  have HO1 := Lib.hid (HO.out.alloc (.cells #[.slice (some ⟨b, off, none⟩) n cap, .slice (some ⟨w.heap.size, 0, none⟩) n n] 134))
  have HB1 := Lib.hid (hb1.alloc hsz1 (.cells #[.slice (some ⟨b, off, none⟩) n cap, .slice (some ⟨w.heap.size, 0, none⟩) n n] 134))
  have hMs : w1.heap.size < (w1.alloc (.cells #[.slice (some ⟨b, off, none⟩) n cap, .slice (some ⟨w.heap.size, 0, none⟩) n n] 134)).heap.size := by simp
  clear HO hb1
  go_wp2
  generalize w1.alloc (.cells #[.slice (some ⟨b, off, none⟩) n cap, .slice (some ⟨w.heap.size, 0, none⟩) n n] 134) = w2 at *
  generalize w1.heap.size = M at *
  obtain ⟨N, hNN⟩ : ∃ N, N = w.heap.size := ⟨_, rfl⟩
  rw [← hNN] at HM1 HO1 HB1 HMM hbw ⊢
  have hNM : N ≤ M := by omega
  have HNN := Lib.hid hNN
  clear hNN hsz1
  go_loopw [4] (fun i wr => ∃ (k : Nat) (ys : List Value), k ≤ n ∧ i = .int .i64 k ∧ Hid (wr.heap[M]? = some (.cells #[.slice (some ⟨b, off, none⟩) n cap, .slice (some ⟨N, 0, none⟩) n n] 134 (0, 0))) ∧ Hid (wr.ownsRow N 33 1 (.slice (some ⟨N, 0, none⟩) n n) n ys) ∧ Hid (RTreesTo wr ps k ys) ∧ Below N w wr) (fun i _ => n - (intOf i).toNat)
  case atStart => exact ⟨0, xs, Nat.zero_le _, rfl, HM1, HO1, Lib.hid (fun j x hj => absurd hj (Nat.not_lt_zero _)), HB1.out⟩
  case round =>
    clear HM1 HO1 HB1 hMs
    obtain ⟨k, ys, hk, rfl, HM, HO, HT, hb⟩ := hrel
    have hNw : N ≤ wr.heap.size := by have := HNN.out; have := hb.size; omega
    have hMlt : M < wr.heap.size := (Array.getElem?_eq_some_iff.1 HM.out).1
    by_cases hlt : k < n
    · obtain ⟨x, hx⟩ := get_at (ps := ps) (k := k) (by have := HN.out; omega)
      obtain ⟨a0, a1, a2, a3, a4⟩ := HP.out.2 k x hx
      have k0 := (hb.cell (p := ⟨b, off + k * 5, none⟩) hbw).trans a0
      have k4 := (hb.cell (p := ⟨b, off + k * 5 + 4, none⟩) hbw).trans a4
      have HX := Lib.hid hx
      have hk1 : (k : Int) < (n : Int) := by omega
      have hk0 : (0 : Int) ≤ (k : Int) := by omega
      clear hx a0 a1 a2 a3 a4
      by_cases h0 : x.op = 0
      · have HS := Lib.hid (fun W => rRead_any (S x.tree) W (HV.out.tree HX.out h0))
        have H0 := Lib.hid h0
        rw [h0] at k0
        clear h0
        have m1 : wr.cell? ⟨M, 1, none⟩ = some (.slice (some ⟨N, 0, none⟩) n n) := Lib.cell_of_heap HM.out 1
        have hn1 : (⟨N, k, none⟩ : Addr) ≠ ⟨M, 1, none⟩ := fun e => by
          injection e with e1
          have h9 := own_tag HO.out (k := N) rfl
          rw [e1] at h9
          exact h9.ne (τ := 134) (by decide) ⟨_, (), HM.out⟩
        have hn2 : (⟨N, k, none⟩ : Addr) ≠ ⟨b, off + k * 5 + 4, none⟩ := fun e => by
          injection e with e1
          omega
        have HN1 := Lib.hid hn1; have HN2 := Lib.hid hn2; clear hn1 hn2
        have B4 := Lib.hid k4; have B1 := Lib.hid m1
        obtain ⟨u0, hu0⟩ := own_cell1 HO.out k hlt
        have hf0 := HO.out.frozenAt k
        have HU0 := Lib.hid hu0
        have HF0 := Lib.hid hf0
        clear hu0 hf0
        go_wp2_with fail
        go_region_held3 (fun w' => w'.cell? ⟨M, 1, none⟩ = some (.slice (some ⟨N, 0, none⟩) n n) ∧ w'.cell? ⟨b, off + k * 5 + 4, none⟩ = some (.string (S x.tree)))
          (first | exact ⟨B1.out, B4.out⟩ | exact ⟨g1, g2⟩ | exact ⟨j1, j2⟩ | go_keep)
          (first | (go_simp; go_at_call 18; refine (HS.out _).mono ?_; rintro e w2 ⟨v2, rfl, hv2, hb2⟩; obtain ⟨V2, rfl⟩ := hv2.one; have g1 := cell_keep hb2 B1.out; have g2 := cell_keep hb2 B4.out; have g3 := cell_keep hb2 HU0.out; have g4 := (hb2.frozen (p := ⟨N, k, none⟩) (cell_lt HU0.out)).trans HF0.out; have j1 := (set_other (v := .pointer V2) HN1.out).trans g1; have j2 := (set_other (v := .pointer V2) HN2.out).trans g2))
        have hw2 : Below wr.heap.size wr w2 := ((Below.refl _ wr).drew).trans hb2
        have hbN : Below N w w2 := hb.trans (hw2.mono hNw)
        have HB3 := Lib.hid (hbN.setCell (p := ⟨N, k, none⟩) (Nat.le_refl N) (.pointer V2))
        have HM3 : Hid ((w2.setCell ⟨N, k, none⟩ (.pointer V2)).heap[M]? = some (.cells #[.slice (some ⟨b, off, none⟩) n cap, .slice (some ⟨N, 0, none⟩) n n] 134 (0, 0))) := Lib.hid (by
          rw [Below.heap_setCell _ _ _ _ (fun e => by have h9 := own_tag HO.out (k := N) rfl; rw [← show M = N from e] at h9; exact h9.ne (τ := 134) (by decide) ⟨_, (), HM.out⟩), hw2.block M hMlt, HM.out])
        have HO3 := Lib.hid ((own_below HO.out hw2).stored k (.pointer V2)).1
        have hKN : KeepT 72 w2 (w2.setCell ⟨N, k, none⟩ (.pointer V2)) := KeepT.setCell ((own_tag (own_below HO.out hw2) (k := N) rfl).ne (by decide)) _
        have hKW := (KeepT.below hw2).trans hKN
        have hyl : ys.length = n := by have := HO.out.1; omega
        have HT3 : Hid (RTreesTo (w2.setCell ⟨N, k, none⟩ (.pointer V2)) ps (k + 1) (ys.set k (.pointer V2))) := Lib.hid (fun j y hj hy hy0 => by
          by_cases e : j = k
          · subst e
            have h1 := HX.out
            rw [hy] at h1
            cases h1
            refine ⟨.pointer V2, by rw [List.getElem?_set_self (by omega)], ?_⟩
            exact NodeW.keep hv2 hKN
          · obtain ⟨z, z1, z2⟩ := HT.out j y (by omega) hy hy0
            exact ⟨z, by rw [List.getElem?_set_ne (fun h => e h.symm), z1], NodeW.keep z2 hKW⟩)
        clear hw2 hbN hKN hKW hyl hv2 hb2 g1 g2 g3 g4 j1 j2 hb
        go_wp2_with fail
        go_roundw
        case rel => exact ⟨k + 1, _, by omega, by go_num, HM3, HO3, HT3, HB3.out⟩
        case measure => simp [intOf]; omega
      · have hz : (x.op == 0) = false := beq_eq_false_iff_ne.2 h0
        have HT1 : Hid (RTreesTo wr ps (k + 1) ys) := Lib.hid (fun j y hj hy hy0 => by
          by_cases e : j = k
          · subst e
            have h1 := HX.out
            rw [hy] at h1
            cases h1; exact absurd hy0 h0
          · exact HT.out j y (by omega) hy hy0)
        clear h0
        go_wp2_with fail
        go_roundw
        case rel => exact ⟨k + 1, ys, by omega, by go_num, HM, HO, HT1, hb⟩
        case measure => simp [intOf]; omega
    · obtain rfl : k = n := by omega
      go_wp2_with fail
      go_ret
      exact ⟨M, N, rfl, HMM.out wr M N ys HM.out HO.out HT.out HA.out hb trivial, by rw [← HNN.out]; exact hb, Nat.le_of_eq HNN.out.symm⟩
set_option maxHeartbeats 3200000 in
set_option maxRecDepth 100000 in
theorem Load_none (w : World) (A : Option Addr) (cap : Nat) (hv : Value.slice A 0 cap = .slice none 0 0 ∨ ∃ ad c, Value.slice A 0 cap = .slice (some ad) 0 c) :
    Calls Tryz.prog 41 #[.slice A 0 cap] w (LoadOutF w (.slice A 0 cap) []) := by
  obtain ⟨i0, hi, hz0, hz1, hz2⟩ := info_parts Tryz.infoRNode
  have HMM := Lib.hid (fun W M C (ys : List Value) => rl_made (w := w) (W := W) (m := M) (C := C) (n0 := w.heap.size) (ps := []) (ys := ys) (v := .slice A 0 cap))
  have HV := Lib.hid hv
  clear hv
  go_enter Tryz.func41, Tryz.ntmps41
  go_wp2_with (at_make; refine wpList_make_full _ rfl _ _ 93 rfl w.heap.size 33 i0 (.pointer none) 1 Tryz.underlying93 hi hz0 hz1 .i64 .i64 _ _ 0 rfl rfl rfl rfl (by rw [hz2]; omega) (by unfold maxLen; omega) (Nat.le_refl _) ?_)
  intro w1 hown hgrow
  have hb1 : Below w.heap.size w w1 := (Below.refl _ _).grown hgrow (Nat.le_refl _) (by simp)
  obtain ⟨xs, HO⟩ : ∃ xs, Hid (w1.ownsRow w.heap.size 33 1 (.slice (some ⟨w.heap.size, 0, none⟩) 0 0) 0 xs) := ⟨_, Lib.hid hown⟩
  clear hown hgrow hi hz0 hz1 hz2
  have hsz1 := hb1.size
  have HM1 : Hid ((w1.alloc (.cells #[.slice A 0 cap, .slice (some ⟨w.heap.size, 0, none⟩) 0 0] 134)).heap[w1.heap.size]? = some (.cells #[.slice A 0 cap, .slice (some ⟨w.heap.size, 0, none⟩) 0 0] 134 (0, 0))) := Lib.hid (heap_alloc_new _ _)
  have HO1 := Lib.hid (HO.out.alloc (.cells #[.slice A 0 cap, .slice (some ⟨w.heap.size, 0, none⟩) 0 0] 134))
  have HB1 := Lib.hid (hb1.alloc hsz1 (.cells #[.slice A 0 cap, .slice (some ⟨w.heap.size, 0, none⟩) 0 0] 134))
  clear HO hb1
  go_wp2
  go_loopw [4] (fun i wr => i = .int .i64 0 ∧ wr = w1.alloc (.cells #[.slice A 0 cap, .slice (some ⟨w.heap.size, 0, none⟩) 0 0] 134)) (fun _ _ => 0)
  case atStart => exact ⟨rfl, rfl⟩
  case round =>
    obtain ⟨rfl, rfl⟩ := hrel
    go_wp2
    go_ret
    exact ⟨_, _, rfl, HMM.out _ _ _ xs HM1.out HO1.out (fun j x hj => absurd hj (Nat.not_lt_zero _)) (.inl ⟨rfl, HV.out⟩) HB1.out trivial, HB1.out, Nat.le_refl _⟩
theorem Load_new (w : World) (v : Value) (ps : List Ins) (h : ArgP w v ps) (hv : PValid ps) : Calls Tryz.prog 41 #[v] w (LoadOutF w v ps) := by
  rcases h with ⟨rfl, h⟩ | ⟨h0, b, off, cap, rfl, hP⟩
  · obtain ⟨A, cap, rfl⟩ := empty_arg h
    exact Load_none w A cap h
  · exact Load_some w b off cap ps hP h0 hv
theorem Load_any (w : World) (v : Value) (ps : List Ins) (h : ArgP w v ps) (hv : PValid ps) : Calls Tryz.prog 41 #[v] w (LoadOut w v ps) := by
  refine (Load_new w v ps h hv).mono ?_
  rintro e w' ⟨m, C, h1, h2, h3, _⟩
  exact ⟨m, C, h1, h2, h3⟩
end Go.Proofs.YtkpfocgcnehajabGreatDoor
