/- RunTouches: its walk. By an AI agent. -/
import Derived.Test.YtpiahjbpidcjpaaTouchM
import Derived.Test.YtpiahjbpidcjpaaRegionInv
import Derived.Test.YtpiahjbpidcjpaaRList
namespace Go.Proofs.Ytpiahjbpidcjpaa
open Go.RowKit Pl

theorem tou_alloc (w : World) (o : Obj) : Below w.heap.size w (w.alloc o) := (Below.refl _ _).alloc (Nat.le_refl _) _
theorem tou_form {w : World} {v : Value} {ps : List Ins} (h : ArgP w v ps) : ∃ a c, v = .slice a ps.length c := by
  rcases h with ⟨rfl, rfl | ⟨ad, cap, rfl⟩⟩ | ⟨_, b, off, cap, rfl, _⟩
  · exact ⟨_, _, rfl⟩
  · exact ⟨_, _, rfl⟩
  · exact ⟨_, _, rfl⟩
theorem tun {l : Nat → Bool} {i j : Nat} (h : l j = true → l i = true) (hn : l i = false) : l j = false := by
  cases hj : l j with
  | false => rfl
  | true => rw [h hj] at hn; cases hn
theorem rdepT {md : Region.Mode} {ops : Array Oper} {listed : Array Bool} {i : Nat} {o : Oper} (hi : i ∈ Region.ready md ops listed) (ho : ops[i]? = some o) (e : Edge) (he : e ∈ o.after) (hb : Region.binds md e = true) : listed.getD e.on false = true := by
  obtain ⟨_, o', ho', h⟩ := mem_ready.1 hi
  rw [ho] at ho'
  obtain rfl := Option.some.inj ho'
  exact h e he hb
theorem tstart {n j : Nat} (h : (Array.replicate n false).getD j false = true) : False := by
  rw [Array.getD_eq_getD_getElem?, Array.getElem?_replicate] at h
  split at h <;> simp at h
theorem all_listed2 {md : Region.Mode} {ops : Array Oper} {listed : Array Bool} (hs : listed.size = ops.size)
    (hback : ((List.range ops.size).all fun j => match ops[j]? with | some o => o.after.all (fun e => !(Region.binds md e) || decide (e.on < j)) | none => true) = true) (hr : Region.ready md ops listed = []) : ∀ j, j < ops.size → listed.getD j false = true := by
  have hback : ∀ (j : Nat) (o : Oper), ops[j]? = some o → ∀ e ∈ o.after, Region.binds md e = true → e.on < j := by
    intro j o ho e he hbi
    have h1 := List.all_eq_true.1 hback j (List.mem_range.2 (Array.getElem?_eq_some_iff.1 ho).1)
    rw [ho] at h1
    have h2 := Array.all_eq_true_iff_forall_mem.1 h1 e he
    simpa [hbi] using h2
  intro j
  induction j using Nat.strongRecOn with
  | ind j ih =>
    intro hj
    have hjl : j < listed.size := by omega
    rcases hv : listed[j] with _ | _
    · exfalso
      have : j ∈ Region.ready md ops listed := by
        refine mem_ready.2 ⟨by rw [Array.getD_eq_getD_getElem?, Array.getElem?_eq_getElem hjl]; exact hv, ops[j], Array.getElem?_eq_getElem hj, fun e he hbi => ?_⟩
        have h1 := hback j _ (Array.getElem?_eq_getElem hj) e he hbi
        exact ih e.on h1 (by omega)
      rw [hr] at this; cases this
    · rw [Array.getD_eq_getD_getElem?, Array.getElem?_eq_getElem hjl]; exact hv
def tupd (l : Nat → Bool) (i j : Nat) : Bool := Nat.beq j i || l j
def tput (v : Nat → Value) (s : Nat) (x : Value) (t : Nat) : Value := if t = s then x else v t
theorem tupd_eq {listed : Array Bool} {i : Nat} (hi : i < listed.size) : (fun j => (listed.setIfInBounds i true).getD j false) = tupd (fun j => listed.getD j false) i := by
  funext j
  unfold tupd
  by_cases h : j = i
  · subst h
    simp [Array.getD_eq_getD_getElem?, Array.getElem?_setIfInBounds_self_of_lt hi]
  · have hb : Nat.beq j i = false := by
      rw [Bool.eq_false_iff]; exact fun e => h (Nat.eq_of_beq_eq_true e)
    rw [getD_set_ne false (Ne.symm h), hb]; rfl
theorem tnot {listed : Array Bool} {i : Nat} (h : listed.getD i true = false) : listed.getD i false = false ∧ i < listed.size := by
  have hi : i < listed.size := by
    rcases Nat.lt_or_ge i listed.size with h' | h'
    · exact h'
    · rw [Array.getD_eq_getD_getElem?, Array.getElem?_eq_none h'] at h; cases h
  refine ⟨?_, hi⟩
  rw [Array.getD_eq_getD_getElem?, Array.getElem?_eq_getElem hi] at h ⊢
  exact h
/-- what holds within the region that calls Step, l: what has been carried out -/
structure Tch (W0 : World) (VA AG : Value) (a : Int) (ps : List Ins) (ls ts : List (List UInt8)) (E : Int) (k : Nat) (l : Nat → Bool) (w : World) (v : Nat → Value) : Prop where
  b : Below W0.heap.size W0 w
  f0 : l 0 = true → v 22 = VA
  f1 : l 1 = true → l 4 = false → ArgP w (v 23) ps
  f2 : l 2 = true → v 24 = AG
  f3 : l 3 = true → l 4 = false → ∃ g c, v 25 = .agg #[.int .i64 a, .slice (some ⟨g, 0, none⟩) ls.length c] ∧ StrAt w g 0 ls
  f4 : l 4 = true → ∃ x y, v 26 = .tuple #[.agg #[x, y], .int .i64 E] ∧ RT E k ts w x y ∧ SV x y ∧ (l 9 = true → ∃ g, v 5 = .pointer (some ⟨g, 0, none⟩) ∧ w.cell? ⟨g, 0, none⟩ = some x ∧ w.cell? ⟨g, 1, none⟩ = some y)
  f5 : l 5 = true → v 21 = v 26
  f6 : l 6 = true → ∃ x y e, v 27 = .agg #[x, y] ∧ v 26 = .tuple #[.agg #[x, y], e] ∧ SV x y
  f7 : l 7 = true → v 28 = .int .i64 E
  f8 : l 8 = true → l 9 = false → ∃ g, v 5 = .pointer (some ⟨g, 0, none⟩) ∧ W0.heap.size ≤ g ∧ w.cell? ⟨g, 0, none⟩ = some (.int .i64 0) ∧ w.cell? ⟨g, 1, none⟩ = some (.slice none 0 0) ∧ w.frozen? ⟨g, 0, none⟩ = false ∧ w.frozen? ⟨g, 1, none⟩ = false
  f10 : l 10 = true → v 6 = .int .i64 E
  g5 : l 5 = true → l 4 = true
  g6 : l 6 = true → l 4 = true
  g9 : l 9 = true → l 4 = true ∧ l 8 = true
section
variable {W0 : World} {VA AG : Value} {a : Int} {ps : List Ins} {ls ts : List (List UInt8)} {E : Int} {k : Nat} {l : Nat → Bool} {w : World} {v : Nat → Value}
theorem Tch.later (h : Tch W0 VA AG a ps ls ts E k l w v) {w' : World} (hb : Below w.heap.size w w') : Tch W0 VA AG a ps ls ts E k l w' v :=
  ⟨bstep h.b hb, h.f0, fun i j => (h.f1 i j).below hb, h.f2, fun i j => by
    obtain ⟨g, c, h1, h2⟩ := h.f3 i j
    exact ⟨g, c, h1, h2.below hb⟩, fun i => by
    obtain ⟨x, y, h1, h2, hv, h3⟩ := h.f4 i
    refine ⟨x, y, h1, h2.below hb, hv, fun j => ?_⟩
    obtain ⟨g, h4, h5, h6⟩ := h3 j
    exact ⟨g, h4, cell_keep hb h5, cell_keep hb h6⟩, h.f5, h.f6, h.f7, fun i j => by
    obtain ⟨g, h1, h2, h3, h4, h5, h6⟩ := h.f8 i j
    exact ⟨g, h1, h2, cell_keep hb h3, cell_keep hb h4, (hb.frozen (p := ⟨g, 0, none⟩) (cell_lt h3)).trans h5, (hb.frozen (p := ⟨g, 1, none⟩) (cell_lt h4)).trans h6⟩, h.f10, h.g5, h.g6, h.g9⟩
theorem Tch.s0 (h : Tch W0 VA AG a ps ls ts E k l w v) : Tch W0 VA AG a ps ls ts E k (tupd l 0) w (tput v 22 VA) :=
  ⟨h.b, fun _ => rfl, h.f1, h.f2, h.f3, h.f4, h.f5, h.f6, h.f7, h.f8, h.f10, h.g5, h.g6, h.g9⟩
theorem Tch.s1 (h : Tch W0 VA AG a ps ls ts E k l w v) {x : Value} (hx : ArgP w x ps) : Tch W0 VA AG a ps ls ts E k (tupd l 1) w (tput v 23 x) :=
  ⟨h.b, h.f0, fun _ _ => hx, h.f2, h.f3, h.f4, h.f5, h.f6, h.f7, h.f8, h.f10, h.g5, h.g6, h.g9⟩
theorem Tch.s2 (h : Tch W0 VA AG a ps ls ts E k l w v) : Tch W0 VA AG a ps ls ts E k (tupd l 2) w (tput v 24 AG) :=
  ⟨h.b, h.f0, h.f1, fun _ => rfl, h.f3, h.f4, h.f5, h.f6, h.f7, h.f8, h.f10, h.g5, h.g6, h.g9⟩
theorem Tch.s3 (h : Tch W0 VA AG a ps ls ts E k l w v) {g c : Nat} (hx : StrAt w g 0 ls) : Tch W0 VA AG a ps ls ts E k (tupd l 3) w (tput v 25 (.agg #[.int .i64 a, .slice (some ⟨g, 0, none⟩) ls.length c])) :=
  ⟨h.b, h.f0, h.f1, h.f2, fun _ _ => ⟨g, c, rfl, hx⟩, h.f4, h.f5, h.f6, h.f7, h.f8, h.f10, h.g5, h.g6, h.g9⟩
theorem Tch.s4 (h : Tch W0 VA AG a ps ls ts E k l w v) {x y : Value} (hx : RT E k ts w x y) (hv : SV x y) (h9 : l 9 = false) (h5 : l 5 = false) (h6 : l 6 = false) : Tch W0 VA AG a ps ls ts E k (tupd l 4) w (tput v 26 (.tuple #[.agg #[x, y], .int .i64 E])) :=
  ⟨h.b, h.f0, fun _ e => (by cases (show true = false from e)), h.f2, fun _ e => (by cases (show true = false from e)), fun _ => ⟨x, y, rfl, hx, hv, fun e => (by rw [show l 9 = true from e] at h9; cases h9)⟩, fun e => (by rw [show l 5 = true from e] at h5; cases h5), fun e => (by rw [show l 6 = true from e] at h6; cases h6), h.f7, h.f8, h.f10, fun _ => rfl, fun _ => rfl, fun e => ⟨rfl, (h.g9 e).2⟩⟩
theorem Tch.s5 (h : Tch W0 VA AG a ps ls ts E k l w v) (h4 : l 4 = true) {X : Value} (hX : v 26 = X) : Tch W0 VA AG a ps ls ts E k (tupd l 5) w (tput v 21 X) :=
  ⟨h.b, h.f0, h.f1, h.f2, h.f3, h.f4, fun _ => hX.symm, h.f6, h.f7, h.f8, h.f10, fun _ => h4, h.g6, h.g9⟩
theorem Tch.s6 (h : Tch W0 VA AG a ps ls ts E k l w v) (h4 : l 4 = true) {x y e : Value} (hx : v 26 = .tuple #[.agg #[x, y], e]) (hv : SV x y) : Tch W0 VA AG a ps ls ts E k (tupd l 6) w (tput v 27 (.agg #[x, y])) :=
  ⟨h.b, h.f0, h.f1, h.f2, h.f3, h.f4, h.f5, fun _ => ⟨x, y, e, rfl, hx, hv⟩, h.f7, h.f8, h.f10, h.g5, fun _ => h4, h.g9⟩
theorem Tch.s7 (h : Tch W0 VA AG a ps ls ts E k l w v) : Tch W0 VA AG a ps ls ts E k (tupd l 7) w (tput v 28 (.int .i64 E)) :=
  ⟨h.b, h.f0, h.f1, h.f2, h.f3, h.f4, h.f5, h.f6, fun _ => rfl, h.f8, h.f10, h.g5, h.g6, h.g9⟩
theorem Tch.s8 (h : Tch W0 VA AG a ps ls ts E k l w v) (h9 : l 9 = false) : Tch W0 VA AG a ps ls ts E k (tupd l 8) (w.alloc (.cells #[.int .i64 0, .slice none 0 0] 26)) (tput v 5 (.pointer (some ⟨w.heap.size, 0, none⟩))) := by
  have h' := h.later (tou_alloc w (.cells #[.int .i64 0, .slice none 0 0] 26))
  refine ⟨h'.b, h'.f0, h'.f1, h'.f2, h'.f3, fun i => ?_, h'.f5, h'.f6, h'.f7, fun _ _ => ⟨w.heap.size, rfl, h.b.size, ?_, ?_, ?_, ?_⟩, h'.f10, h'.g5, h'.g6, fun e => ⟨(h'.g9 e).1, rfl⟩⟩
  · obtain ⟨x, y, h1, h2, hv, h3⟩ := h'.f4 i
    exact ⟨x, y, h1, h2, hv, fun e => (by rw [show l 9 = true from e] at h9; cases h9)⟩
  · rw [World.cell?_alloc_new]; rfl
  · rw [World.cell?_alloc_new]; rfl
  · simp
  · simp
theorem Tch.s9 (h : Tch W0 VA AG a ps ls ts E k l w v) (ht : E = 0 → 0 < ts.length) (h4 : l 4 = true) (h8 : l 8 = true) {g : Nat} {x y e : Value} (h5 : v 5 = .pointer (some ⟨g, 0, none⟩)) (hg : W0.heap.size ≤ g) (c0 : w.cell? ⟨g, 0, none⟩ = some (.int .i64 0)) (c1 : w.cell? ⟨g, 1, none⟩ = some (.slice none 0 0)) (h26 : v 26 = .tuple #[.agg #[x, y], e]) :
    Tch W0 VA AG a ps ls ts E k (tupd l 9) ((w.setCell ⟨g, 0, none⟩ x).setCell ⟨g, 1, none⟩ y) v := by
  refine ⟨(h.b.setCell (p := ⟨g, 0, none⟩) hg _).setCell (p := ⟨g, 1, none⟩) hg _, h.f0, fun _ e => (by rw [show l 4 = false from e] at h4; cases h4), h.f2, fun _ e => (by rw [show l 4 = false from e] at h4; cases h4), fun _ => ?_, h.f5, h.f6, h.f7, fun _ e => (by cases (show true = false from e)), h.f10, h.g5, h.g6, fun _ => ⟨h4, h8⟩⟩
  obtain ⟨x', y', h1, h2, hv, h3⟩ := h.f4 h4
  rw [h26] at h1
  simp only [Value.tuple.injEq, Array.mk.injEq, List.cons.injEq, Value.agg.injEq, and_true] at h1
  obtain ⟨⟨rfl, rfl⟩, rfl⟩ := h1
  refine ⟨x, y, h26, h2.put ht c0, hv, fun _ => ⟨g, h5, ?_, ?_⟩⟩
  · rw [set_other (addr_ne (by omega)), set_same c0]
  · refine set_same (u := .slice none 0 0) ?_
    rw [set_other (addr_ne (by omega)), c1]
theorem Tch.s10 (h : Tch W0 VA AG a ps ls ts E k l w v) : Tch W0 VA AG a ps ls ts E k (tupd l 10) w (tput v 6 (.int .i64 E)) :=
  ⟨h.b, h.f0, h.f1, h.f2, h.f3, h.f4, h.f5, h.f6, h.f7, h.f8, fun _ => rfl, h.g5, h.g6, h.g9⟩
end
theorem Try.infoBool1 : (Try.prog.info? 4).map (fun i => (i.zero, i.size, i.bytes)) = some (some (.bool false), 1, 1) := by kernel_rfl
/-- a row of 32 truths -/
def BoolAt (w : World) (G : Nat) (bs : Nat → Bool) : Prop := G < w.heap.size ∧ (∀ j, j < 32 → w.cell? ⟨G, j, none⟩ = some (.bool (bs j))) ∧ ∀ j, w.frozen? ⟨G, j, none⟩ = false
theorem BoolAt.made {w : World} {G : Nat} {e : TypeId} (h : w.ownsRow G e 1 (.slice (some ⟨G, 0, none⟩) 32 32) 32 (madeCells (Value.cells (.bool false)) (32 * 1)).toList) : BoolAt w G (fun _ => false) := by
  refine ⟨(h.lt G rfl).2, fun j hj => ?_, fun j => ?_⟩
  · rw [h.cellAt j (by omega)]
    simp [madeCells, Value.cells, hj, Nat.mod_one]
  · rcases h.2 with ⟨h', _⟩ | ⟨g, cap, cur, h', hb, hg, _⟩
    · simp at h'
    · simp only [Value.slice.injEq, Option.some.injEq, Addr.mk.injEq, and_true, true_and] at h'
      obtain ⟨rfl, rfl⟩ := h'
      exact Lib.frozen_of_heap hg j
theorem BoolAt.set {w : World} {G q : Nat} {bs : Nat → Bool} (h : BoolAt w G bs) (hq : q < 32) : BoolAt (w.setCell ⟨G, q, none⟩ (.bool true)) G (fun j => decide (j = q) || bs j) := by
  refine ⟨by simpa using h.1, fun j hj => ?_, fun j => by rw [World.frozen?_setCell]; exact h.2.2 j⟩
  by_cases e : j = q
  · subst e; rw [set_same (h.2.1 j hj)]; simp
  · rw [set_other (addr_ne (Ne.symm e)), h.2.1 j hj]; simp [e]
/-- what is known of the registers that occur, behind n instructions -/
def Occ (ps : List Ins) (n : Nat) (bs : Nat → Bool) : Prop := ∀ (i : Nat) (x : Ins) (q : Nat), i < n → ps[i]? = some x → x.op ≠ 5 → x.a = (q : Int) → q < 32 → bs q = true
theorem tou_nth {ps : List Ins} {n : Nat} (h : n < ps.length) : ∃ x, ps[n]? = some x := ⟨ps[n], List.getElem?_eq_getElem h⟩
def AwkP (w : World) (e : Ending) (w' : World) : Prop := e = .returned (.bool true) ∧ Below w.heap.size w w'
set_option maxHeartbeats 1600000 in
set_option maxRecDepth 100000 in
theorem touches_form (w : World) (v S0 : Value) (ps : List Ins) (a : Int) (h : ArgP w v ps) (hl : ps.length ≤ 281474976710656) (hz : ∀ x ∈ ps, x.tree.length ≤ 281474976710656) (hp : ¬ PValid ps) :
    Calls Try.prog 5 #[v, .agg #[.int .i64 a, S0]] w (AwkP w) := by
  have hb0 : Below w.heap.size w (w.alloc (.cells #[.int .i64 a, S0] 26)) := tou_alloc _ _
  have HPV := Lib.hid (PV_arg _ v ps false (h.below hb0) hl hz (by simp [hp]))
  have HB := Lib.hid hb0
  clear hb0 h
  go_enter Try.func5, Try.ntmps5
  go_wp2_with fail
  refine HPV.out.mono ?_
  rintro e w1 ⟨rfl, h1⟩
  have H1 := Lib.hid (bstep HB.out h1)
  clear h1
  go_wp2_with fail
  refine (awake3_any _).mono ?_
  rintro e w2 ⟨rfl, h2⟩
  go_wp2
  go_ret
  exact ⟨rfl, bstep H1.out h2⟩
set_option maxHeartbeats 1600000 in
set_option maxRecDepth 100000 in
theorem touches_unfit (w : World) (v S0 : Value) (ps : List Ins) (a : Int) (ls : List (List UInt8)) (h : ArgP w v ps) (hp : PValid ps) (hs : RegsP w S0 ls) (hz : ∀ l ∈ ls, l.length ≤ 281474976710656) (hn : ¬ SFits a ls ps.length) :
    Calls Try.prog 5 #[v, .agg #[.int .i64 a, S0]] w (AwkP w) := by
  have hb0 : Below w.heap.size w (w.alloc (.cells #[.int .i64 a, S0] 26)) := tou_alloc _ _
  have c0 : (w.alloc (.cells #[.int .i64 a, S0] 26)).cell? ⟨w.heap.size, 0, none⟩ = some (.int .i64 a) := by rw [World.cell?_alloc_new]; rfl
  have c1 : (w.alloc (.cells #[.int .i64 a, S0] 26)).cell? ⟨w.heap.size, 1, none⟩ = some S0 := by rw [World.cell?_alloc_new]; rfl
  have HPV := Lib.hid (PV_arg _ v ps true (h.below hb0) (by have := hp.1; omega) (fun x hx => by have := PV_tree_le hp hx; omega) (by simp [hp]))
  have HRF := Lib.hid (fun W pa pc (hb : Below w.heap.size w W) => rfits_any W pa ps.length pc a S0 ls false (hs.below hb) hz (by simp [hn]))
  obtain ⟨pa, pc, rfl⟩ := tou_form h
  have HB := Lib.hid hb0
  clear hb0 h hs hz hn hp
  go_enter Try.func5, Try.ntmps5
  go_wp2_with fail
  refine HPV.out.mono ?_
  rintro e w1 ⟨rfl, h1⟩
  have d0 := cell_keep h1 c0; have d1 := cell_keep h1 c1
  have H1 := Lib.hid (bstep HB.out h1)
  clear h1
  go_wp2_with fail
  refine (HRF.out _ _ _ H1.out).mono ?_
  rintro e w2 ⟨rfl, h2⟩
  have H2 := Lib.hid (bstep H1.out h2)
  clear h2
  go_wp2_with fail
  refine (awake3_any _).mono ?_
  rintro e w3 ⟨rfl, h3⟩
  go_wp2
  go_ret
  exact ⟨rfl, bstep H2.out h3⟩
set_option maxHeartbeats 3200000 in
set_option maxRecDepth 100000 in
theorem touches_fit (w : World) (v : Value) (b0 off0 cap0 : Nat) (ps : List Ins) (a : Nat) (ls : List (List UInt8)) (h : ArgP w v ps) (hp : PValid ps) (hs : StrAt w b0 off0 ls) (h32 : ls.length = 32) (hf : ∀ l ∈ ls, vld l = true) (ha : a ≤ ps.length) :
    Calls Try.prog 5 #[v, .agg #[.int .i64 (a : Int), .slice (some ⟨b0, off0, none⟩) 32 cap0]] w (AwkP w) := by
  have hz : ∀ l ∈ ls, l.length ≤ 281474976710656 := fun l hl => by have := (vld_iff.1 (hf l hl)).1; omega
  have hb0 : Below w.heap.size w (w.alloc (.cells #[.int .i64 (a : Int), .slice (some ⟨b0, off0, none⟩) 32 cap0] 26)) := tou_alloc _ _
  have c0 : (w.alloc (.cells #[.int .i64 (a : Int), .slice (some ⟨b0, off0, none⟩) 32 cap0] 26)).cell? ⟨w.heap.size, 0, none⟩ = some (.int .i64 (a : Int)) := by rw [World.cell?_alloc_new]; rfl
  have c1 : (w.alloc (.cells #[.int .i64 (a : Int), .slice (some ⟨b0, off0, none⟩) 32 cap0] 26)).cell? ⟨w.heap.size, 1, none⟩ = some (.slice (some ⟨b0, off0, none⟩) 32 cap0) := by rw [World.cell?_alloc_new]; rfl
  have HPV := Lib.hid (PV_arg _ v ps true (h.below hb0) (by have := hp.1; omega) (fun x hx => by have := PV_tree_le hp hx; omega) (by simp [hp]))
  have HRF := Lib.hid (fun W pa pc (hb : Below w.heap.size w W) => rfits_any W pa ps.length pc (a : Int) (.slice (some ⟨b0, off0, none⟩) 32 cap0) ls true (.inr ⟨by omega, b0, off0, cap0, by rw [h32], hs.below hb⟩) hz (by simp [SFits, h32]; exact ⟨ha, hf⟩))
  have HT := Lib.hid (fun W (hb : Below w.heap.size w W) => twin_any W v ps (h.below hb) (by have := hp.1; omega))
  have HCP := Lib.hid (fun W (hb : Below w.heap.size w W) => copied3_some W (a : Int) b0 off0 32 cap0 ls h32.symm (by omega) (by omega) (hs.below hb))
  have HSA := Lib.hid hs
  obtain ⟨E, k, ts, hE, hSt⟩ := Step_fit a ps ls hp h32 hf ha
  have HE := Lib.hid hE; have HST := Lib.hid hSt; have HA := Lib.hid h; have HP := Lib.hid hp; have HN := Lib.hid h32
  obtain ⟨pa, pc, rfl⟩ := tou_form h
  have HB := Lib.hid hb0
  clear hb0 h hs hz hp hf ha h32 hE hSt
  go_enter Try.func5, Try.ntmps5
  go_wp2_with fail
  refine HPV.out.mono ?_
  rintro e w1 ⟨rfl, h1⟩
  have d0 := cell_keep h1 c0; have d1 := cell_keep h1 c1
  have H1 := Lib.hid (bstep HB.out h1)
  clear h1 c0 c1
  go_wp2_with fail
  refine (HRF.out _ _ _ H1.out).mono ?_
  rintro e w2 ⟨rfl, h2⟩
  have e0 := cell_keep h2 d0; have e1 := cell_keep h2 d1
  have H2 := Lib.hid (bstep H1.out h2)
  clear h2 d0 d1
  go_wp2_with fail
  have HTS : Hid (E = 0 → 0 < ts.length) := Lib.hid (fun he => by rcases HE.out with h | h | ⟨_, _, h⟩ <;> first | omega | (rw [h.1]; omega))
  refine wp_region_inv (P := Try.prog) (fun listed a' w' => ∃ v : Nat → Value, a' = { tmps := #[(.slice pa ps.length pc), (.agg #[.int .i64 (a : Int), .slice (some ⟨b0, off0, none⟩) 32 cap0]), undef, .pointer (some ⟨w.heap.size, 0, none⟩), .bool false, v 5, v 6, undef, undef, undef, undef, (.slice pa ps.length pc), .bool true, .bool false, .bool false, (.slice pa ps.length pc), (.agg #[.int .i64 (a : Int), .slice (some ⟨b0, off0, none⟩) 32 cap0]), .bool true, .bool false, .bool false, undef, v 21, v 22, v 23, v 24, v 25, v 26, v 27, v 28, undef, undef, undef, undef, undef, undef, undef, undef, undef, undef, undef, undef, undef, undef, undef, undef, undef, undef, undef, undef, undef, undef, undef, undef, undef, undef, undef, undef, undef, undef, undef, undef, undef, undef, undef, undef, undef, undef, undef, undef, undef, undef, undef, undef, undef, undef, undef, undef, undef, undef, undef, undef, undef, undef, undef, undef, undef, undef, undef, undef, undef, undef, undef, undef, undef, undef, undef, undef, undef, undef, undef, undef, undef, undef, undef, undef, undef, undef, undef, undef, undef, undef, undef, undef, undef, undef, undef, undef, undef, undef, undef], defers := [] } ∧ Tch w2 (.slice pa ps.length pc) (.agg #[.int .i64 (a : Int), .slice (some ⟨b0, off0, none⟩) 32 cap0]) (a : Int) ps ls ts E k (fun j => listed.getD j false) w' v) (by kernel_rfl) ?start ?step ?done
  case start =>
    have hno : ∀ {P : Prop} {j : Nat}, (Array.replicate 11 false).getD j false = true → P := fun h => (tstart h).elim
    exact ⟨fun _ => undef, rfl, (Below.refl _ _).drew, fun h => hno h, fun h => hno h, fun h => hno h, fun h => hno h, fun h => hno h, fun h => hno h, fun h => hno h, fun h => hno h, fun h => hno h, fun h => hno h, fun h => hno h, fun h => hno h, fun h => hno h⟩
  case step =>
    rintro listed a' w' i hs ⟨v, rfl, h⟩ hi
    have q0 := cell_keep h.b e0; have q1 := cell_keep h.b e1
    obtain ⟨hnl, hil⟩ := tnot (mem_ready.1 hi).1
    have hlt : i = 0 ∨ i = 1 ∨ i = 2 ∨ i = 3 ∨ i = 4 ∨ i = 5 ∨ i = 6 ∨ i = 7 ∨ i = 8 ∨ i = 9 ∨ i = 10 := by
      obtain ⟨_, o, ho, _⟩ := mem_ready.1 hi
      have := (Array.getElem?_eq_some_iff.1 ho).1
      simp at this; omega
    rcases hlt with rfl | rfl | rfl | rfl | rfl | rfl | rfl | rfl | rfl | rfl | rfl
    · refine wpOp_step rfl (fun K' hK => ?_)
      go_simp
      exact hK _ _ ⟨tput v 22 (.slice pa ps.length pc), rfl, tupd_eq hil ▸ h.s0⟩
    · have d0 := h.f0 (rdepT hi rfl ⟨0, .data⟩ (by simp) rfl)
      refine wpOp_step rfl (fun K' hK => ?_)
      go_simp
      refine (HT.out _ (bstep H2.out h.b)).mono ?_
      rintro e w4 ⟨x1, rfl, a1, h4⟩
      exact hK _ _ ⟨tput v 23 x1, by simp [tput, d0], tupd_eq hil ▸ (h.later h4).s1 a1⟩
    · refine wpOp_step rfl (fun K' hK => ?_)
      go_simp
      exact hK _ _ ⟨tput v 24 (.agg #[.int .i64 (a : Int), .slice (some ⟨b0, off0, none⟩) 32 cap0]), rfl, tupd_eq hil ▸ h.s2⟩
    · have d2 := h.f2 (rdepT hi rfl ⟨2, .data⟩ (by simp) rfl)
      refine wpOp_step rfl (fun K' hK => ?_)
      go_simp
      refine (HCP.out _ (bstep H2.out h.b)).mono ?_
      rintro e w4 ⟨g, c, rfl, s4, _, h4⟩
      exact hK _ _ ⟨tput v 25 (.agg #[.int .i64 (a : Int), .slice (some ⟨g, 0, none⟩) ls.length c]), by simp [tput, d2], tupd_eq hil ▸ (h.later h4).s3 s4⟩
    · have d1 := h.f1 (rdepT hi rfl ⟨1, .data⟩ (by simp) rfl) hnl
      obtain ⟨g, c, d3, s3⟩ := h.f3 (rdepT hi rfl ⟨3, .data⟩ (by simp) rfl) hnl
      refine wpOp_step rfl (fun K' hK => ?_)
      go_simp
      refine (HST.out _ _ _ _ d1 s3).mono ?_
      rintro e w4 ⟨h4, x, y, rfl, r4, v4⟩
      exact hK _ _ ⟨tput v 26 (.tuple #[.agg #[x, y], .int .i64 E]), by simp [tput, d3], tupd_eq hil ▸ (h.later h4).s4 r4 v4 (tun (l := fun j => listed.getD j false) (i := 4) (j := 9) (fun e => (h.g9 e).1) hnl) (tun (l := fun j => listed.getD j false) (i := 4) (j := 5) h.g5 hnl) (tun (l := fun j => listed.getD j false) (i := 4) (j := 6) h.g6 hnl)⟩
    · obtain ⟨x, y, d4, _, v4, _⟩ := h.f4 (rdepT hi rfl ⟨4, .data⟩ (by simp) rfl)
      refine wpOp_step rfl (fun K' hK => ?_)
      go_simp
      exact hK _ _ ⟨tput v 21 (.tuple #[.agg #[x, y], .int .i64 E]), by simp [tput, d4], tupd_eq hil ▸ h.s5 (rdepT hi rfl ⟨4, .data⟩ (by simp) rfl) d4⟩
    · have d5 := h.f5 (rdepT hi rfl ⟨5, .data⟩ (by simp) rfl)
      obtain ⟨x, y, d4, _, v4, _⟩ := h.f4 (h.g5 (rdepT hi rfl ⟨5, .data⟩ (by simp) rfl))
      rw [d4] at d5
      refine wpOp_step rfl (fun K' hK => ?_)
      go_simp
      exact hK _ _ ⟨tput v 27 (.agg #[x, y]), by simp [tput, d4, d5], tupd_eq hil ▸ h.s6 (h.g5 (rdepT hi rfl ⟨5, .data⟩ (by simp) rfl)) d4 v4⟩
    · have d5 := h.f5 (rdepT hi rfl ⟨5, .data⟩ (by simp) rfl)
      obtain ⟨x, y, d4, _, v4, _⟩ := h.f4 (h.g5 (rdepT hi rfl ⟨5, .data⟩ (by simp) rfl))
      rw [d4] at d5
      refine wpOp_step rfl (fun K' hK => ?_)
      go_simp
      exact hK _ _ ⟨tput v 28 (.int .i64 E), by simp [tput, d4, d5], tupd_eq hil ▸ h.s7⟩
    · refine wpOp_step rfl (fun K' hK => ?_)
      go_simp
      exact hK _ _ ⟨tput v 5 (.pointer (some ⟨w'.heap.size, 0, none⟩)), rfl, tupd_eq hil ▸ h.s8 (tun (l := fun j => listed.getD j false) (i := 8) (j := 9) (fun e => (h.g9 e).2) hnl)⟩
    · obtain ⟨g, d8, hg, c0, c1, f0, f1⟩ := h.f8 (rdepT hi rfl ⟨8, .data⟩ (by simp) rfl) hnl
      obtain ⟨_, _, e, d6, d4, xi, ya, yn, yc, rfl, rfl⟩ := h.f6 (rdepT hi rfl ⟨6, .data⟩ (by simp) rfl)
      refine wpOp_step rfl (fun K' hK => ?_)
      go_simp
      exact hK _ _ ⟨v, by simp [d4, d6, d8], tupd_eq hil ▸ h.s9 HTS.out (h.g6 (rdepT hi rfl ⟨6, .data⟩ (by simp) rfl)) (rdepT hi rfl ⟨8, .data⟩ (by simp) rfl) d8 hg c0 c1 d4⟩
    · have d7 := h.f7 (rdepT hi rfl ⟨7, .data⟩ (by simp) rfl)
      refine wpOp_step rfl (fun K' hK => ?_)
      go_simp
      exact hK _ _ ⟨tput v 6 (.int .i64 E), by simp [tput, d7], tupd_eq hil ▸ h.s10⟩
  case done =>
    rintro listed a' w' hs hr ⟨v, rfl, h⟩
    have al : ∀ j, j < 11 → listed.getD j false = true := fun j hj => all_listed2 hs (by kernel_rfl) hr j hj
    obtain ⟨x, y, _, hR, hV, h9⟩ := h.f4 (al 4 (by omega))
    obtain ⟨g, d5, g0, g1⟩ := h9 (al 9 (by omega))
    have d6 := h.f10 (al 10 (by omega))
    have q0 := cell_keep h.b e0; have q1 := cell_keep h.b e1
    have HB3 := Lib.hid (bstep H2.out h.b)
    clear al h9 h hs hr e0 e1
    rcases HE.out with he | he | ⟨he, hk, hT⟩
    · subst he
      clear hR hV
      go_wp2_with fail
      refine (awake3_any _).mono ?_
      rintro e w4 ⟨rfl, h4⟩
      go_wp2
      go_ret
      exact ⟨rfl, bstep HB3.out h4⟩
    · subst he
      clear hR hV
      go_wp2_with fail
      refine (awake3_any _).mono ?_
      rintro e w4 ⟨rfl, h4⟩
      go_wp2
      go_ret
      exact ⟨rfl, bstep HB3.out h4⟩
    · subst he
      obtain ⟨rfl, B, rfl, hS⟩ := hR rfl
      have HS := Lib.hid hS
      have HTT := Lib.hid hT
      obtain ⟨i0, hi, hz0, hz1, hz2⟩ := info_parts Try.infoBool1
      clear hR hV hT hS
      generalize hm : ps.length = m at *
      have HM := Lib.hid hm
      have hm4 : m ≤ 4000 := by have := HP.out.1; omega
      clear hm
      go_wp2_with (at_make; refine wpList_make_full _ rfl _ _ 55 rfl w'.heap.size 4 i0 (.bool false) 1 Try.underlying55 hi hz0 hz1 .i64 .i64 _ _ 32 rfl rfl rfl rfl (by rw [hz2]; omega) (by unfold maxLen; omega) (Nat.le_refl _) ?_)
      intro w4 hown hgrow
      have hb4 : Below w'.heap.size w' w4 := (Below.refl _ _).grown hgrow (Nat.le_refl _) (by simp)
      have HBO := Lib.hid (BoolAt.made hown)
      have r0 := cell_keep hb4 q0; have r1 := cell_keep hb4 q1; have k0 := cell_keep hb4 g0; have k1 := cell_keep hb4 g1
      have HB4 := Lib.hid hb4
      have Q0 := Lib.hid q0; have Q1 := Lib.hid q1; have G0 := Lib.hid g0; have G1 := Lib.hid g1
      clear hown hgrow hi hz0 hz1 hz2 hb4 q0 q1 g0 g1
      go_wp2_with fail
      go_loopw [8] (fun i wr => ∃ n : Nat, n ≤ m ∧ i = .int .i64 n ∧ Hid (Below w'.heap.size w' wr) ∧ Hid (∃ bs, BoolAt wr w'.heap.size bs ∧ Occ ps n bs)) (fun i _ => m - (intOf i).toNat)
      case atStart => exact ⟨0, Nat.zero_le _, rfl, HB4, Lib.hid ⟨_, HBO.out, fun i x q hi => absurd hi (by omega)⟩⟩
      case round =>
        obtain ⟨n, hn, rfl, HBW, HBS⟩ := hrel
        obtain ⟨bs, hbs, hoc⟩ := HBS.out
        by_cases hlt : n < m
        · have hn1 : (n : Int) < (m : Int) := by omega
          obtain ⟨x, hx⟩ := tou_nth (ps := ps) (n := n) (by rw [HM.out]; exact hlt)
          obtain ⟨⟨q, hq, hqa⟩, _⟩ := right_a (HP.out.2.2 n x hx)
          obtain ⟨b, off, rfl, hPA⟩ : ∃ b off, pa = some ⟨b, off, none⟩ ∧ ProgAt w b off ps := by
            rcases HA.out with ⟨he, _⟩ | ⟨_, b, off, c, he, hP⟩
            · rw [he] at hx; simp at hx
            · injection he with he _ _
              exact ⟨b, off, he, hP⟩
          obtain ⟨x0, x1, _, _, _⟩ := (hPA.below (bstep HB3.out HBW.out)).2 n x hx
          have HOC := Lib.hid hoc; have HX := Lib.hid hx; have HQ := Lib.hid hqa
          by_cases h5 : x.op = 5
          · rw [h5] at x0
            clear hx hPA x1 hqa hbs hoc
            go_wp2_with fail
            go_roundw
            case rel => exact ⟨n + 1, by omega, by go_num, HBW, Lib.hid (by
              obtain ⟨bs', h1, h2⟩ := HBS.out
              refine ⟨bs', h1, fun i y q' hi hy h5' hq' => ?_⟩
              by_cases e : i = n
              · subst e; rw [HX.out] at hy; cases hy; exact absurd h5 h5'
              · exact h2 i y q' (by omega) hy h5' hq')⟩
            case measure => simp [intOf]; omega
          · have h5b : (x.op == 5) = false := by simpa using h5
            have c5 := hbs.2.1 q hq
            have f5 := hbs.2.2 q
            have HBT := Lib.hid (BoolAt.set hbs hq)
            rw [hqa] at x1
            have hq2 : (q : Int) < 32 := by omega
            clear hx hPA hqa hbs hoc
            go_wp2_with fail
            go_roundw
            case rel => exact ⟨n + 1, by omega, by go_num, Lib.hid (HBW.out.setCell (p := ⟨w'.heap.size, q, none⟩) (Nat.le_refl _) _), Lib.hid ⟨_, HBT.out, fun i y q' hi hy h5' hqa' hq' => by
              by_cases e : i = n
              · subst e
                rw [HX.out] at hy; cases hy
                have : q' = q := by have := HQ.out; omega
                simp [this]
              · simp [HOC.out i y q' (by omega) hy h5' hqa' hq']⟩⟩
            case measure => simp [intOf]; omega
        · obtain rfl : n = m := by omega
          clear hbs hoc
          go_wp2_with fail
          obtain ⟨bs, hbs, hoc⟩ := HBS.out
          obtain ⟨ht32, q, hq, hsame, hdiff⟩ := HTT.out
          have HSM := Lib.hid hsame
          have HDF : Hid (ts.getD q [] ≠ ls.getD q [] → bs q = true) := Lib.hid fun hne => by
            obtain ⟨i, x, hx, h5, hxa⟩ := hdiff hne
            exact hoc i x q (by have := (List.getElem?_eq_some_iff.1 hx).1; have := HM.out; omega) hx h5 hxa hq
          have HBQ := Lib.hid hbs
          have H32 := Lib.hid ht32
          clear hbs hoc hsame hdiff HBS ht32
          have HB5 := Lib.hid (bstep HB3.out HBW.out)
          go_loopw [9, 10] (fun c i w6 => ∃ (j cc : Nat), j ≤ 32 ∧ i = .int .i64 j ∧ c = .int .i64 cc ∧ (cc = 0 ∨ (cc = 1 ∧ q < j)) ∧ Hid (Below wr.heap.size wr w6)) (fun _ i _ => 32 - (intOf i).toNat)
          case atStart => exact ⟨0, 0, Nat.zero_le _, rfl, rfl, .inl rfl, Lib.hid (Below.refl _ _)⟩
          case round =>
            obtain ⟨j, cc, hj, rfl, rfl, hcc, HB6⟩ := hrel
            have HBW6 := Lib.hid (bstep HBW.out HB6.out)
            have m0 := cell_keep HBW6.out Q0.out; have m1 := cell_keep HBW6.out Q1.out; have n0 := cell_keep HBW6.out G0.out; have n1 := cell_keep HBW6.out G1.out
            by_cases hlt2 : j < 32
            · have u0 := (HS.out.below HBW6.out).2 j (by rw [H32.out]; exact hlt2)
              have u1 := (HSA.out.below (bstep HB3.out HBW6.out)).2 j (by rw [HN.out]; exact hlt2)
              have i0 : (0 : Int) ≤ (j : Int) := by omega
              have i1 : (j : Int) < 32 := by omega
              rw [Nat.zero_add] at u0
              have HSJ := Lib.hid (fun (hne : j ≠ q) => HSM.out j hlt2 hne)
              have HDJ := Lib.hid (fun (he : j = q) => by have := HDF.out; rw [← he] at this; exact this)
              have HBJ := (HBQ.out.2.1 j hlt2)
              have o0 := cell_keep HB6.out HBJ
              clear HBJ
              generalize ts.getD j [] = tj at *
              generalize ls.getD j [] = lj at *
              by_cases he : tj = lj
              · subst he
                clear o0
                have sm := same_str tj
                go_wp2_with fail
                go_quiet (fail)
                go_wp2
                go_roundw
                case rel => exact ⟨j + 1, cc, by omega, by go_num, rfl, by omega, Lib.hid (bdrewN HB6.out _)⟩
                case measure => simp [intOf]; omega
              · have hjq : j = q := by
                  by_cases e : j = q
                  · exact e
                  · exact absurd (HSJ.out e) he
                have hbt := HDJ.out hjq he
                rw [hbt] at o0
                have heb : (tj == lj) = false := by simpa using he
                have hc0 : cc = 0 := by omega
                subst hc0
                have HJQ := Lib.hid hjq
                clear hjq hcc hbt he
                go_wp2_with fail
                go_quiet (fail)
                go_wp2
                go_roundw
                case rel => exact ⟨j + 1, 1, by omega, by go_num, by go_num, by have := HJQ.out; omega, Lib.hid (bdrewN HB6.out _)⟩
                case measure => simp [intOf]; omega
            · obtain rfl : j = 32 := by omega
              have hk2 : (k : Int) ≤ (n : Int) := by omega
              have hk3 : (0 : Int) ≤ (k : Int) := by omega
              have hc1 : (cc : Int) ≤ 1 := by omega
              go_wp2_with fail
              refine (awake3_any _).mono ?_
              rintro e w7 ⟨rfl, h7⟩
              go_wp2
              go_ret
              exact ⟨rfl, bstep HB3.out (bstep HBW6.out h7)⟩
theorem RunTouches_any (w : World) (v : Value) (a : Int) (rg : Value) (ps : List Ins) (ls : List (List UInt8)) (hA : ArgP w v ps) (hl : ps.length ≤ 281474976710656) (hz : ∀ x ∈ ps, x.tree.length ≤ 281474976710656) (hr : RegsP w rg ls) (hs : ∀ l ∈ ls, l.length ≤ 281474976710656) :
    Calls Try.prog 5 #[v, .agg #[.int .i64 a, rg]] w (AwkP w) := by
  by_cases hp : PValid ps
  · by_cases hf : SFits a ls ps.length
    · obtain ⟨h1, h2, h3, h4⟩ := hf
      obtain ⟨n, rfl⟩ : ∃ n : Nat, a = (n : Int) := ⟨a.toNat, by omega⟩
      rcases hr with ⟨rfl, _⟩ | ⟨_, b, off, cap, rfl, hc⟩
      · simp at h3
      · rw [h3]
        exact touches_fit w v b off cap ps n ls hA hp hc h3 h4 (by omega)
    · exact touches_unfit w v rg ps a ls hA hp hr hs hf
  · exact touches_form w v rg ps a hA hl hz hp
end Go.Proofs.Ytpiahjbpidcjpaa
