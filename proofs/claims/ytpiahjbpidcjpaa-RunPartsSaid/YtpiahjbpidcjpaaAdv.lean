/- Package run: advance. By an AI agent. -/
import Derived.Test.YtpiahjbpidcjpaaStates
import Derived.Outline
namespace Go.Proofs.Ytpiahjbpidcjpaa
open Go.RowKit Pl

attribute [local go_sem] Oper.semAt_some

/-- what advance returns -/
def AdvOut (w : World) (ps : List Ins) (t : Tr) (K : Nat) (e : Ending) (w' : World) : Prop :=
  Below w.heap.size w w' ∧ match runTo ps K (first t) with
    | some (s, n) => ∃ n0 M C, e = .returned (.tuple #[.pointer (some ⟨M, 0, none⟩), .int .i64 (n : Int), .int .i64 0]) ∧ Mach w' n0 M C ps s ∧ w.heap.size ≤ n0
    | none => e = .returned (.tuple #[.pointer none, .int .i64 0, .int .i64 3])
/-- what advance has in boxes: k, and its results -/
structure Res (w : World) (k : Int) (W : World) : Prop where
  c0 : W.cell? ⟨w.heap.size, 0, none⟩ = some (.int .i64 k)
  c1 : W.cell? ⟨w.heap.size + 1, 0, none⟩ = some (.pointer none)
  c2 : W.cell? ⟨w.heap.size + 1 + 1, 0, none⟩ = some (.int .i64 0)
  c3 : W.cell? ⟨w.heap.size + 1 + 1 + 1, 0, none⟩ = some (.int .i64 0)
  f1 : W.frozen? ⟨w.heap.size + 1, 0, none⟩ = false
  f2 : W.frozen? ⟨w.heap.size + 1 + 1, 0, none⟩ = false
  f3 : W.frozen? ⟨w.heap.size + 1 + 1 + 1, 0, none⟩ = false
  size : w.heap.size + 1 + 1 + 1 < W.heap.size
  below : Below w.heap.size w W
  tags : ∀ b, w.heap.size ≤ b → b ≤ w.heap.size + 1 + 1 + 1 → ¬ TagB W b 103 ∧ ¬ TagB W b 151
def res0 (w : World) (k : Int) : World := ((((w.alloc (.cells #[.int .i64 k] 3)).alloc (.cells #[.pointer none] 100)).alloc (.cells #[.int .i64 0] 3)).alloc (.cells #[.int .i64 0] 29))
theorem Res.keep {w W W' : World} {k : Int} (h : Res w k W) (hs : W.heap.size ≤ W'.heap.size) (hb : Below w.heap.size w W') (hk : ∀ b, w.heap.size ≤ b → b ≤ w.heap.size + 1 + 1 + 1 → W'.heap[b]? = W.heap[b]?) : Res w k W' :=
  have e : ∀ b, w.heap.size ≤ b → b ≤ w.heap.size + 1 + 1 + 1 → W'.cell? ⟨b, 0, none⟩ = W.cell? ⟨b, 0, none⟩ := fun b h1 h2 => World.cell?_of_block (w := W) (a := ⟨b, 0, none⟩) (hk b h1 h2)
  have g : ∀ b, w.heap.size ≤ b → b ≤ w.heap.size + 1 + 1 + 1 → W'.frozen? ⟨b, 0, none⟩ = W.frozen? ⟨b, 0, none⟩ := fun b h1 h2 => World.frozen?_of_block (w := W) (a := ⟨b, 0, none⟩) (hk b h1 h2)
  ⟨(e _ (by omega) (by omega)).trans h.c0, (e _ (by omega) (by omega)).trans h.c1, (e _ (by omega) (by omega)).trans h.c2, (e _ (by omega) (by omega)).trans h.c3,
    (g _ (by omega) (by omega)).trans h.f1, (g _ (by omega) (by omega)).trans h.f2, (g _ (by omega) (by omega)).trans h.f3, Nat.lt_of_lt_of_le h.size hs, hb, fun b h1 h2 => ⟨fun ⟨C, fr, e⟩ => (h.tags b h1 h2).1 ⟨C, fr, (hk b h1 h2) ▸ e⟩, fun ⟨C, fr, e⟩ => (h.tags b h1 h2).2 ⟨C, fr, (hk b h1 h2) ▸ e⟩⟩⟩
theorem Res.later {w W W' : World} {k : Int} (h : Res w k W) (hb : Below W.heap.size W W') : Res w k W' :=
  h.keep hb.size (h.below.trans (hb.mono (by have := h.size; omega))) fun b _ h2 => hb.block b (by have := h.size; omega)
theorem res0_is (w : World) (k : Int) : Res w k (res0 w k) := by
  have b0 := (((Boxed.new w 3 (.int .i64 k)).alloc (.cells #[.pointer none] 100)).alloc (.cells #[.int .i64 0] 3)).alloc (.cells #[.int .i64 0] 29)
  have b1 := ((Boxed.new (w.alloc (.cells #[.int .i64 k] 3)) 100 (.pointer none)).alloc (.cells #[.int .i64 0] 3)).alloc (.cells #[.int .i64 0] 29)
  have b2 := (Boxed.new ((w.alloc (.cells #[.int .i64 k] 3)).alloc (.cells #[.pointer none] 100)) 3 (.int .i64 0)).alloc (.cells #[.int .i64 0] 29)
  have b3 := Boxed.new (((w.alloc (.cells #[.int .i64 k] 3)).alloc (.cells #[.pointer none] 100)).alloc (.cells #[.int .i64 0] 3)) 29 (.int .i64 0)
  simp only [World.size_alloc] at b1 b2 b3
  refine ⟨b0.cell, b1.cell, b2.cell, b3.cell, b1.frozen, b2.frozen, b3.frozen, by simp [res0], ((((Below.refl _ w).alloc (Nat.le_refl _) _).alloc (by simp) _).alloc (by simp; omega) _).alloc (by simp; omega) _, fun b h1 h2 => ?_⟩
  rcases (by omega : b = w.heap.size ∨ b = w.heap.size + 1 ∨ b = w.heap.size + 1 + 1 ∨ b = w.heap.size + 1 + 1 + 1) with rfl | rfl | rfl | rfl
  · exact ⟨TagB.ne ⟨_, _, b0⟩ (by decide), TagB.ne ⟨_, _, b0⟩ (by decide)⟩
  · exact ⟨TagB.ne ⟨_, _, b1⟩ (by decide), TagB.ne ⟨_, _, b1⟩ (by decide)⟩
  · exact ⟨TagB.ne ⟨_, _, b2⟩ (by decide), TagB.ne ⟨_, _, b2⟩ (by decide)⟩
  · exact ⟨TagB.ne ⟨_, _, b3⟩ (by decide), TagB.ne ⟨_, _, b3⟩ (by decide)⟩
def resSet (w W : World) (a b c : Value) : World := ((W.setCell ⟨w.heap.size + 1, 0, none⟩ a).setCell ⟨w.heap.size + 1 + 1, 0, none⟩ b).setCell ⟨w.heap.size + 1 + 1 + 1, 0, none⟩ c
theorem blk_ne {a b : Nat} (h : a ≠ b) : (⟨a, 0, none⟩ : Addr) ≠ ⟨b, 0, none⟩ := fun e => h (by injection e)
theorem Res.set {w W : World} {k : Int} (h : Res w k W) (a b c : Value) : (resSet w W a b c).cell? ⟨w.heap.size + 1, 0, none⟩ = some a ∧ (resSet w W a b c).cell? ⟨w.heap.size + 1 + 1, 0, none⟩ = some b ∧ (resSet w W a b c).cell? ⟨w.heap.size + 1 + 1 + 1, 0, none⟩ = some c ∧ Below w.heap.size w (resSet w W a b c) := by
  unfold resSet
  refine ⟨?_, ?_, ?_, ((h.below.setCell (by simp) _).setCell (by simp; omega) _).setCell (by simp; omega) _⟩
  · rw [set_other (blk_ne (by omega)), set_other (blk_ne (by omega)), set_same h.c1]
  · rw [set_other (blk_ne (by omega))]
    refine set_same (u := .int .i64 0) ?_
    rw [set_other (blk_ne (by omega)), h.c2]
  · refine set_same (u := .int .i64 0) ?_
    rw [set_other (blk_ne (by omega)), set_other (blk_ne (by omega)), h.c3]
theorem PV_tree_le {ps : List Ins} (hv : PValid ps) {x : Ins} (hx : x ∈ ps) : x.tree.length ≤ 2000000 := by
  obtain ⟨k, hk⟩ := List.getElem?_of_mem hx
  exact right_tree_le (hv.2.2 k x hk)
theorem pv_not {ps : List Ins} {r : Bool} (h : r = true ↔ PValid ps) (hn : ¬ PValid ps) : r = false := by
  cases r with
  | false => rfl
  | true => exact absurd (h.1 rfl) hn

set_option maxHeartbeats 1600000 in
set_option maxRecDepth 100000 in
theorem advance_form (w : World) (v : Value) (ps : List Ins) (x : ByteArray) (k : Int) (h : ArgP w v ps) (hl : ps.length ≤ 281474976710656) (hz : ∀ x ∈ ps, x.tree.length ≤ 281474976710656) (hx : x.size ≤ 281474976710656) (hn : ¬ PValid ps ∨ vld x.data.toList = false) :
    Calls Try.prog 83 #[v, .string x, .int .i64 k] w fun e w' => e = .returned (.tuple #[.pointer none, .int .i64 0, .int .i64 1]) ∧ Below w.heap.size w w' := by
  obtain ⟨A, cap, rfl⟩ : ∃ A cap, v = .slice A ps.length cap := by
    rcases h with ⟨rfl, h⟩ | ⟨_, b, off, cap, rfl, _⟩
    · obtain ⟨A, cap, rfl⟩ := empty_arg h
      exact ⟨A, cap, rfl⟩
    · exact ⟨_, _, rfl⟩
  obtain ⟨r, hr⟩ := pv_bool ps
  have HV := Lib.hid (fun W h => CV_arg W (.slice A ps.length cap) ps r h hl hz hr)
  have HX := Lib.hid (fun W b hb => Valid_is b x W hx hb)
  have HA := Lib.hid h; have HR := Lib.hid hr; have HN := Lib.hid hn
  clear hl hz h hr hn
  generalize ps.length = n at *
  go_enter Try.func83, Try.ntmps83
  go_wp2_with fail
  have h0 := res0_is w k
  refine (HV.out _ (HA.out.below h0.below)).mono ?_
  rintro e w1 ⟨rfl, hb1⟩
  have h1 : Res w k w1 := h0.later hb1
  clear hb1 h0
  cases hrb : r with
  | false =>
    clear hrb
    obtain ⟨p1, p2, p3, pb⟩ := h1.set (.pointer none) (.int .i64 0) (.int .i64 1)
    unfold resSet at p1 p2 p3 pb
    obtain ⟨c0, c1, c2, c3, f1, f2, f3, hs, _⟩ := h1
    have P1 := Lib.hid p1; have P2 := Lib.hid p2; have P3 := Lib.hid p3; have PB := Lib.hid pb
    clear p1 p2 p3 pb
    go_wp2
    exact bodyPost_ret (v := .tuple #[.pointer none, .int .i64 0, .int .i64 1]) (by simp [results, Try.f83, go_sem, P1.out, P2.out, P3.out]) rfl ⟨rfl, PB.out⟩
  | true =>
    have hx : vld x.data.toList = false := by
      rcases HN.out with h | h
      · exact absurd (HR.out.1 hrb) h
      · exact h
    have HXF := Lib.hid hx
    clear hx hrb
    go_wp2_with fail
    refine (HX.out _ _ HXF.out).mono ?_
    rintro e w2 ⟨rfl, hb2⟩
    have h2 : Res w k w2 := h1.later hb2
    clear h1 hb2
    obtain ⟨p1, p2, p3, pb⟩ := h2.set (.pointer none) (.int .i64 0) (.int .i64 1)
    unfold resSet at p1 p2 p3 pb
    obtain ⟨c0, c1, c2, c3, f1, f2, f3, hs, _⟩ := h2
    have P1 := Lib.hid p1; have P2 := Lib.hid p2; have P3 := Lib.hid p3; have PB := Lib.hid pb
    clear p1 p2 p3 pb
    go_wp2
    exact bodyPost_ret (v := .tuple #[.pointer none, .int .i64 0, .int .i64 1]) (by simp [results, Try.f83, go_sem, P1.out, P2.out, P3.out]) rfl ⟨rfl, PB.out⟩
set_option maxHeartbeats 1600000 in
set_option maxRecDepth 100000 in
theorem advance_arg (w : World) (v : Value) (ps : List Ins) (x : ByteArray) (k : Int) (h : ArgP w v ps) (hv : PValid ps) (hx : vld x.data.toList = true) (hk : k < 0 ∨ 10000000 < k) :
    Calls Try.prog 83 #[v, .string x, .int .i64 k] w fun e w' => e = .returned (.tuple #[.pointer none, .int .i64 0, .int .i64 2]) ∧ Below w.heap.size w w' := by
  have HV := Lib.hid (fun W h => CV_arg W v ps true h (by have := hv.1; omega) (fun x hx => by have := PV_tree_le hv hx; omega) (by simp [hv]))
  have HX := Lib.hid (fun W => Valid_is true x W (by have := vld_size hx; omega) hx)
  have HA := Lib.hid h
  obtain ⟨A, cap, rfl⟩ : ∃ A cap, v = .slice A ps.length cap := by
    rcases h with ⟨rfl, h⟩ | ⟨_, b, off, cap, rfl, _⟩
    · obtain ⟨A, cap, rfl⟩ := empty_arg h
      exact ⟨A, cap, rfl⟩
    · exact ⟨_, _, rfl⟩
  clear h hv hx
  generalize ps.length = n at *
  go_enter Try.func83, Try.ntmps83
  go_wp2_with fail
  have h0 := res0_is w k
  refine (HV.out _ (HA.out.below h0.below)).mono ?_
  rintro e w1 ⟨rfl, hb1⟩
  have h1 : Res w k w1 := h0.later hb1
  clear hb1 h0
  go_wp2_with fail
  refine (HX.out _).mono ?_
  rintro e w2 ⟨rfl, hb2⟩
  have h2 : Res w k w2 := h1.later hb2
  clear h1 hb2
  rcases hk with hk | hk
  · have hk' : k < 0 := hk
    obtain ⟨p1, p2, p3, pb⟩ := h2.set (.pointer none) (.int .i64 0) (.int .i64 2)
    unfold resSet at p1 p2 p3 pb
    obtain ⟨c0, c1, c2, c3, f1, f2, f3, hs, _⟩ := h2
    have P1 := Lib.hid p1; have P2 := Lib.hid p2; have P3 := Lib.hid p3; have PB := Lib.hid pb
    clear p1 p2 p3 pb
    go_wp2
    exact bodyPost_ret (v := .tuple #[.pointer none, .int .i64 0, .int .i64 2]) (by simp [results, Try.f83, go_sem, P1.out, P2.out, P3.out]) rfl ⟨rfl, PB.out⟩
  · have hk0 : ¬ k < 0 := by omega
    have hk1 : (0 : Int) ≤ k := by omega
    obtain ⟨p1, p2, p3, pb⟩ := h2.set (.pointer none) (.int .i64 0) (.int .i64 2)
    unfold resSet at p1 p2 p3 pb
    obtain ⟨c0, c1, c2, c3, f1, f2, f3, hs, _⟩ := h2
    have P1 := Lib.hid p1; have P2 := Lib.hid p2; have P3 := Lib.hid p3; have PB := Lib.hid pb
    clear p1 p2 p3 pb
    go_wp2
    exact bodyPost_ret (v := .tuple #[.pointer none, .int .i64 0, .int .i64 2]) (by simp [results, Try.f83, go_sem, P1.out, P2.out, P3.out]) rfl ⟨rfl, PB.out⟩
end Go.Proofs.Ytpiahjbpidcjpaa
