/- Package run: newMachine. By an AI agent. -/
import Derived.Test.YtpiahjbpidcjpaaMach
import Derived.Test.YtpiahjbpidcjpaaShare
import Derived.Outline
namespace Go.Proofs.Ytpiahjbpidcjpaa
open Go.RowKit Pl

def st0 : St := ⟨0, List.replicate 32 .nil⟩
def NewOut (w : World) (v : Value) (ps : List Ins) (e : Ending) (w' : World) : Prop := ∃ M C, e = .returned (.pointer (some ⟨M, 0, none⟩)) ∧ (∀ n1, n1 ≤ w.heap.size → (∀ k, 0 < ps.length → v.ownBlock = some k → k < n1) → Mach w' n1 M C ps st0) ∧ w.heap.size ≤ M ∧ TagB w' M 106 ∧ Below w.heap.size w w'
theorem PValid.tree {ps : List Ins} (hv : PValid ps) {k : Nat} {x : Ins} (hx : ps[k]? = some x) (h0 : x.op = 0) : vld x.tree = true := by
  have hr := hv.2.2 k x hx
  unfold right at hr; rw [h0] at hr; simp at hr; exact hr.2.2
theorem own_cell1 {w : World} {B g n : Nat} {e : TypeId} {xs : List Value} (h : w.ownsRow B e 1 (.slice (some ⟨g, 0, none⟩) n n) n xs) (j : Nat) (hj : j < n) : ∃ u, w.cell? ⟨g, j, none⟩ = some u := by
  have hx := h.1
  rw [h.cellAt j (by omega)]
  exact ⟨xs[j]'(by omega), List.getElem?_eq_getElem _⟩
/-- the cells of a machine that has just been made -/
def machCells (v : Value) (C n : Nat) : Array Value := #[v, .slice (some ⟨C, 0, none⟩) n n, .int .i64 0, .pointer none, .pointer none, .pointer none, .pointer none, .pointer none, .pointer none, .pointer none, .pointer none, .pointer none, .pointer none, .pointer none, .pointer none, .pointer none, .pointer none, .pointer none, .pointer none, .pointer none, .pointer none, .pointer none, .pointer none, .pointer none, .pointer none, .pointer none, .pointer none, .pointer none, .pointer none, .pointer none, .pointer none, .pointer none, .pointer none, .pointer none, .pointer none]
/-- the trees of the first k instructions -/
def TreesTo (w : World) (ps : List Ins) (k : Nat) (ys : List Value) : Prop := ∀ j x, j < k → ps[j]? = some x → x.op = 0 → ∃ y, ys[j]? = some y ∧ NodeW 151 w (rd x.tree) y
theorem mach_cells_reg (v : Value) (C n : Nat) : ∀ r, r < 32 → (machCells v C n)[3 + r]? = some (.pointer none) := by
  intro r hr
  match r, hr with
  | 0, _ | 1, _ | 2, _ | 3, _ | 4, _ | 5, _ | 6, _ | 7, _ | 8, _ | 9, _ | 10, _ | 11, _ | 12, _ | 13, _ | 14, _ | 15, _ | 16, _ | 17, _ | 18, _ | 19, _ | 20, _ | 21, _ | 22, _ | 23, _ | 24, _ | 25, _ | 26, _ | 27, _ | 28, _ | 29, _ | 30, _ | 31, _ => rfl
  | k + 32, h => exact absurd h (by omega)
theorem mach_made {w W : World} {M C n0 : Nat} {ps : List Ins} {ys : List Value} {v : Value} (hM : W.heap[M]? = some (.cells (machCells v C ps.length) 106 (0, 0))) (hC : W.ownsRow n0 103 1 (.slice (some ⟨C, 0, none⟩) ps.length ps.length) ps.length ys) (hT : TreesTo W ps ps.length ys)
    (hA : ArgP w v ps) (hb : Below n0 w W) (hn : n0 = w.heap.size) (hMn : n0 ≤ M) : ∀ n1, n1 ≤ w.heap.size → (∀ k, 0 < ps.length → v.ownBlock = some k → k < n1) → Mach W n1 M C ps st0 := by
  subst hn
  intro n1 h1 ho
  have hcell : ∀ o, W.cell? ⟨M, o, none⟩ = (machCells v C ps.length)[o]? := fun o => Lib.cell_of_heap hM o
  refine ⟨⟨v, by rw [hcell]; rfl, hA.below hb, ho⟩, by rw [hcell]; rfl, by rw [hcell]; rfl, fun r hr => ⟨.pointer none, by rw [hcell, mach_cells_reg _ _ _ r hr], ?_⟩, fun k x hx h0 => ?_, ⟨_, _, hM⟩, fun o => Lib.frozen_of_heap hM o, own_tag hC rfl, Nat.le_trans h1 hMn, Nat.le_trans h1 hb.size⟩
  · show NodeW _ W ((List.replicate 32 Tr.nil)[r]?.getD .nil) _
    rw [List.getElem?_replicate, if_pos hr]; rfl
  · have hk : k < ps.length := (List.getElem?_eq_some_iff.1 hx).1
    obtain ⟨y, h1, h2⟩ := hT k x hk hx h0
    exact ⟨y, by rw [hC.cellAt k (by omega), h1], h2⟩

set_option maxHeartbeats 3200000 in
set_option maxRecDepth 100000 in
theorem newMachine_some (w : World) (b off cap : Nat) (ps : List Ins) (hP : ProgAt w b off ps) (h0 : 0 < ps.length) (hv : PValid ps) :
    Calls Try.prog 69 #[.slice (some ⟨b, off, none⟩) ps.length cap] w (NewOut w (.slice (some ⟨b, off, none⟩) ps.length cap) ps) := by
  obtain ⟨i0, hi, hz0, hz1, hz2⟩ := info_parts Try.infoNode
  have HA : Hid (ArgP w (.slice (some ⟨b, off, none⟩) ps.length cap) ps) := Lib.hid (.inr ⟨h0, b, off, cap, rfl, hP⟩)
  have hm := hv.1
  have HMM := Lib.hid (fun W M C (ys : List Value) => mach_made (w := w) (W := W) (M := M) (C := C) (n0 := w.heap.size) (ps := ps) (ys := ys) (v := .slice (some ⟨b, off, none⟩) ps.length cap))
  obtain ⟨n, hn⟩ : ∃ n, n = ps.length := ⟨_, rfl⟩
  rw [← hn] at HA HMM hm h0 ⊢
  have HN := Lib.hid hn
  have HP := Lib.hid hP; have HV := Lib.hid hv
  have hbw := hP.1
  clear hn hP hv
  go_enter Try.func69, Try.ntmps69
  go_wp2_with (at_make; refine wpList_make_full _ rfl _ _ 102 rfl w.heap.size 103 i0 (.pointer none) 1 Try.underlying102 hi hz0 hz1 .i64 .i64 _ _ n rfl rfl rfl rfl (by rw [hz2]; omega) (by unfold maxLen; omega) (Nat.le_refl _) ?_)
  intro w1 hown hgrow
  have hb1 : Below w.heap.size w w1 := (Below.refl _ _).grown hgrow (Nat.le_refl _) (by simp)
  obtain ⟨xs, HO⟩ : ∃ xs, Hid (w1.ownsRow w.heap.size 103 1 (.slice (some ⟨w.heap.size, 0, none⟩) n n) n xs) := ⟨_, Lib.hid hown⟩
  clear hown hgrow hi hz0 hz1 hz2
  have hsz1 := hb1.size
  have HM1 : Hid ((w1.alloc (.cells (machCells (.slice (some ⟨b, off, none⟩) n cap) w.heap.size n) 106)).heap[w1.heap.size]? = some (.cells (machCells (.slice (some ⟨b, off, none⟩) n cap) w.heap.size n) 106 (0, 0))) := Lib.hid (heap_alloc_new _ _)
  have HO1 := Lib.hid (HO.out.alloc (.cells (machCells (.slice (some ⟨b, off, none⟩) n cap) w.heap.size n) 106))
  have HB1 := Lib.hid (hb1.alloc hsz1 (.cells (machCells (.slice (some ⟨b, off, none⟩) n cap) w.heap.size n) 106))
  have hMs : w1.heap.size < (w1.alloc (.cells (machCells (.slice (some ⟨b, off, none⟩) n cap) w.heap.size n) 106)).heap.size := by simp
  clear HO hb1
  go_wp2
  change Code.wp _ _ _ _ (w1.alloc (.cells (machCells (.slice (some ⟨b, off, none⟩) n cap) w.heap.size n) 106))
  generalize w1.alloc (.cells (machCells (.slice (some ⟨b, off, none⟩) n cap) w.heap.size n) 106) = w2 at *
  generalize w1.heap.size = M at *
  obtain ⟨N, hNN⟩ : ∃ N, N = w.heap.size := ⟨_, rfl⟩
  rw [← hNN] at HM1 HO1 HB1 HMM hbw ⊢
  have hNM : N ≤ M := by omega
  have HNN := Lib.hid hNN
  clear hNN hsz1
  go_loopw [14] (fun i wr => ∃ (k : Nat) (ys : List Value), k ≤ n ∧ i = .int .i64 k ∧ Hid (wr.heap[M]? = some (.cells (machCells (.slice (some ⟨b, off, none⟩) n cap) N n) 106 (0, 0))) ∧ Hid (wr.ownsRow N 103 1 (.slice (some ⟨N, 0, none⟩) n n) n ys) ∧ Hid (TreesTo wr ps k ys) ∧ Below N w wr) (fun i _ => n - (intOf i).toNat)
  case atStart => exact ⟨0, xs, Nat.zero_le _, rfl, HM1, HO1, Lib.hid (fun j x hj => absurd hj (Nat.not_lt_zero _)), HB1.out⟩
  case round =>
    clear HM1 HO1 HB1 hMs
    obtain ⟨k, ys, hk, rfl, HM, HO, HT, hb⟩ := hrel
    have hNw : N ≤ wr.heap.size := by have := HNN.out; have := hb.size; omega
    have hMlt : M < wr.heap.size := (Array.getElem?_eq_some_iff.1 HM.out).1
    by_cases hlt : k < n
    · obtain ⟨x, hx⟩ := get_at (ps := ps) (k := k) (by have := HN.out; omega)
      obtain ⟨a0, a1, a2, a3, a4⟩ := HP.out.2 k x hx
      have k0 := (hb.cell (p := ⟨b, off + k * 5, none⟩) hbw).trans a0
      have k1 := (hb.cell (p := ⟨b, off + k * 5 + 1, none⟩) hbw).trans a1
      have k2 := (hb.cell (p := ⟨b, off + k * 5 + 2, none⟩) hbw).trans a2
      have k3 := (hb.cell (p := ⟨b, off + k * 5 + 3, none⟩) hbw).trans a3
      have k4 := (hb.cell (p := ⟨b, off + k * 5 + 4, none⟩) hbw).trans a4
      have HX := Lib.hid hx
      have hk1 : (k : Int) < (n : Int) := by omega
      have hk0 : (0 : Int) ≤ (k : Int) := by omega
      clear hx a0 a1 a2 a3 a4
      by_cases h0 : x.op = 0
      · have HS := Lib.hid (fun W => share_any (S x.tree) W (HV.out.tree HX.out h0))
        have H0 := Lib.hid h0
        rw [h0] at k0
        clear h0
        have hbx : Below wr.heap.size wr (wr.alloc (.cells #[.int .i64 0, .int .i64 x.a, .int .i64 x.b, .int .i64 x.c, .string (S x.tree)] 57)) := (Below.refl _ _).alloc (Nat.le_refl _) _
        have m1 : wr.cell? ⟨M, 1, none⟩ = some (.slice (some ⟨N, 0, none⟩) n n) := Lib.cell_of_heap HM.out 1
        have b4 : (wr.alloc (.cells #[.int .i64 0, .int .i64 x.a, .int .i64 x.b, .int .i64 x.c, .string (S x.tree)] 57)).cell? ⟨wr.heap.size, 4, none⟩ = some (.string (S x.tree)) := by rw [World.cell?_alloc_new]; rfl
        have b1 := cell_keep hbx m1
        have hn1 : (⟨N, k, none⟩ : Addr) ≠ ⟨M, 1, none⟩ := fun e => by
          injection e with e1
          have h9 := own_tag HO.out (k := N) rfl
          rw [e1] at h9
          exact h9.ne (τ := 106) (by decide) ⟨_, _, HM.out⟩
        have hn2 : (⟨N, k, none⟩ : Addr) ≠ ⟨wr.heap.size, 4, none⟩ := fun e => by
          injection e with e1
          have h9 := (own_tag HO.out (k := N) rfl).lt
          omega
        have HN1 := Lib.hid hn1; have HN2 := Lib.hid hn2; clear hn1 hn2
        have B4 := Lib.hid b4; have B1 := Lib.hid b1; have HBX := Lib.hid hbx
        obtain ⟨u0, hu0⟩ := own_cell1 HO.out k hlt
        have hf0 := HO.out.frozenAt k
        have HU0 := Lib.hid (cell_keep hbx hu0)
        have HF0 := Lib.hid ((hbx.frozen (p := ⟨N, k, none⟩) (cell_lt hu0)).trans hf0)
        clear b4 b1 hbx hu0 hf0
        go_wp2_with fail
        go_region_held3 (fun w' => w'.cell? ⟨M, 1, none⟩ = some (.slice (some ⟨N, 0, none⟩) n n) ∧ w'.cell? ⟨wr.heap.size, 4, none⟩ = some (.string (S x.tree)))
          (first | exact ⟨B1.out, B4.out⟩ | exact ⟨g1, g2⟩ | exact ⟨j1, j2⟩ | go_keep)
          (first | (go_simp; go_at_call 71; refine (HS.out _).mono ?_; rintro e w2 ⟨v2, rfl, hv2, hb2⟩; obtain ⟨V2, rfl⟩ := hv2.one; have g1 := cell_keep hb2 B1.out; have g2 := cell_keep hb2 B4.out; have g3 := cell_keep hb2 HU0.out; have g4 := (hb2.frozen (p := ⟨N, k, none⟩) (cell_lt HU0.out)).trans HF0.out; have j1 := (set_other (v := .pointer V2) HN1.out).trans g1; have j2 := (set_other (v := .pointer V2) HN2.out).trans g2))
        have hw2 : Below wr.heap.size wr w2 := HBX.out.drew.trans (hb2.mono (by simp))
        have hbN : Below N w w2 := hb.trans (hw2.mono hNw)
        have HB3 := Lib.hid (hbN.setCell (p := ⟨N, k, none⟩) (Nat.le_refl N) (.pointer V2))
        have HM3 : Hid ((w2.setCell ⟨N, k, none⟩ (.pointer V2)).heap[M]? = some (.cells (machCells (.slice (some ⟨b, off, none⟩) n cap) N n) 106 (0, 0))) := Lib.hid (by
          rw [Below.heap_setCell _ _ _ _ (fun e => by have h9 := own_tag HO.out (k := N) rfl; rw [← show M = N from e] at h9; exact h9.ne (τ := 106) (by decide) ⟨_, _, HM.out⟩), hw2.block M hMlt, HM.out])
        have HO3 := Lib.hid ((own_below HO.out hw2).stored k (.pointer V2)).1
        have hKN : KeepT 151 w2 (w2.setCell ⟨N, k, none⟩ (.pointer V2)) := KeepT.setCell ((own_tag (own_below HO.out hw2) (k := N) rfl).ne (by decide)) _
        have hKW := (KeepT.below hw2).trans hKN
        have hyl : ys.length = n := by have := HO.out.1; omega
        have HT3 : Hid (TreesTo (w2.setCell ⟨N, k, none⟩ (.pointer V2)) ps (k + 1) (ys.set k (.pointer V2))) := Lib.hid (fun j y hj hy hy0 => by
          by_cases e : j = k
          · subst e
            have h1 := HX.out
            rw [hy] at h1
            cases h1
            refine ⟨.pointer V2, by rw [List.getElem?_set_self (by omega)], ?_⟩
            exact NodeW.keep hv2 hKN
          · obtain ⟨z, z1, z2⟩ := HT.out j y (by omega) hy hy0
            exact ⟨z, by rw [List.getElem?_set_ne (fun h => e h.symm), z1], NodeW.keep z2 hKW⟩)
        clear hw2 hbN hKN hKW hyl hv2 hb2 g1 g2 g3 g4 j1 j2 hb
        go_wp2_with fail
        go_roundw
        case rel => exact ⟨k + 1, _, by omega, by go_num, HM3, HO3, HT3, HB3.out⟩
        case measure => simp [intOf]; omega
      · have hz : (x.op == 0) = false := beq_eq_false_iff_ne.2 h0
        have HT1 : Hid (TreesTo wr ps (k + 1) ys) := Lib.hid (fun j y hj hy hy0 => by
          by_cases e : j = k
          · subst e
            have h1 := HX.out
            rw [hy] at h1
            cases h1; exact absurd hy0 h0
          · exact HT.out j y (by omega) hy hy0)
        have HB2 := Lib.hid (hb.alloc hNw (.cells #[.int .i64 x.op, .int .i64 x.a, .int .i64 x.b, .int .i64 x.c, .string (S x.tree)] 57))
        have HK : Hid (KeepT 151 wr (wr.alloc (.cells #[.int .i64 x.op, .int .i64 x.a, .int .i64 x.b, .int .i64 x.c, .string (S x.tree)] 57))) := Lib.hid (KeepT.alloc _ _ _)
        have HO2 := Lib.hid (HO.out.alloc (.cells #[.int .i64 x.op, .int .i64 x.a, .int .i64 x.b, .int .i64 x.c, .string (S x.tree)] 57))
        have HM2 : Hid ((wr.alloc (.cells #[.int .i64 x.op, .int .i64 x.a, .int .i64 x.b, .int .i64 x.c, .string (S x.tree)] 57)).heap[M]? = _) := Lib.hid ((Lib.alloc_old wr _ M hMlt).trans HM.out)
        clear h0 hb
        go_wp2_with fail
        go_roundw
        case rel => exact ⟨k + 1, ys, by omega, by go_num, HM2, HO2, Lib.hid (fun j y hj hy hy0 => by obtain ⟨z, z1, z2⟩ := HT1.out j y hj hy hy0; exact ⟨z, z1, NodeW.keep z2 HK.out⟩), HB2.out⟩
        case measure => simp [intOf]; omega
    · obtain rfl : k = n := by omega
      go_wp2_with fail
      go_ret
      exact ⟨M, N, rfl, by rw [← HNN.out, ← HN.out]; exact HMM.out wr M N ys HM.out HO.out HT.out HA.out hb trivial hNM, by rw [← HNN.out]; exact hNM, ⟨_, _, HM.out⟩, by rw [← HNN.out]; exact hb⟩
set_option maxHeartbeats 3200000 in
set_option maxRecDepth 100000 in
theorem newMachine_none (w : World) (A : Option Addr) (cap : Nat) (hv : Value.slice A 0 cap = .slice none 0 0 ∨ ∃ ad c, Value.slice A 0 cap = .slice (some ad) 0 c) :
    Calls Try.prog 69 #[.slice A 0 cap] w (NewOut w (.slice A 0 cap) []) := by
  obtain ⟨i0, hi, hz0, hz1, hz2⟩ := info_parts Try.infoNode
  have HMM := Lib.hid (fun W M C (ys : List Value) => mach_made (w := w) (W := W) (M := M) (C := C) (n0 := w.heap.size) (ps := []) (ys := ys) (v := .slice A 0 cap))
  have HV := Lib.hid hv
  clear hv
  go_enter Try.func69, Try.ntmps69
  go_wp2_with (at_make; refine wpList_make_full _ rfl _ _ 102 rfl w.heap.size 103 i0 (.pointer none) 1 Try.underlying102 hi hz0 hz1 .i64 .i64 _ _ 0 rfl rfl rfl rfl (by rw [hz2]; omega) (by unfold maxLen; omega) (Nat.le_refl _) ?_)
  intro w1 hown hgrow
  have hb1 : Below w.heap.size w w1 := (Below.refl _ _).grown hgrow (Nat.le_refl _) (by simp)
  obtain ⟨xs, HO⟩ : ∃ xs, Hid (w1.ownsRow w.heap.size 103 1 (.slice (some ⟨w.heap.size, 0, none⟩) 0 0) 0 xs) := ⟨_, Lib.hid hown⟩
  clear hown hgrow hi hz0 hz1 hz2
  have hsz1 := hb1.size
  have HM1 : Hid ((w1.alloc (.cells (machCells (.slice A 0 cap) w.heap.size 0) 106)).heap[w1.heap.size]? = some (.cells (machCells (.slice A 0 cap) w.heap.size 0) 106 (0, 0))) := Lib.hid (heap_alloc_new _ _)
  have HO1 := Lib.hid (HO.out.alloc (.cells (machCells (.slice A 0 cap) w.heap.size 0) 106))
  have HB1 := Lib.hid (hb1.alloc hsz1 (.cells (machCells (.slice A 0 cap) w.heap.size 0) 106))
  clear HO hb1
  go_wp2
  change Code.wp _ _ _ _ (w1.alloc (.cells (machCells (.slice A 0 cap) w.heap.size 0) 106))
  go_loopw [14] (fun i wr => i = .int .i64 0 ∧ wr = w1.alloc (.cells (machCells (.slice A 0 cap) w.heap.size 0) 106)) (fun _ _ => 0)
  case atStart => exact ⟨rfl, rfl⟩
  case round =>
    obtain ⟨rfl, rfl⟩ := hrel
    go_wp2
    go_ret
    exact ⟨_, _, rfl, HMM.out _ _ _ xs HM1.out HO1.out (fun j x hj => absurd hj (Nat.not_lt_zero _)) (.inl ⟨rfl, HV.out⟩) HB1.out trivial hsz1, hsz1, ⟨_, _, HM1.out⟩, HB1.out⟩
theorem newMachine_any (w : World) (v : Value) (ps : List Ins) (h : ArgP w v ps) (hv : PValid ps) : Calls Try.prog 69 #[v] w (NewOut w v ps) := by
  rcases h with ⟨rfl, h⟩ | ⟨h0, b, off, cap, rfl, hP⟩
  · obtain ⟨A, cap, rfl⟩ := empty_arg h
    exact newMachine_none w A cap h
  · exact newMachine_some w b off cap ps hP h0 hv
end Go.Proofs.Ytpiahjbpidcjpaa
