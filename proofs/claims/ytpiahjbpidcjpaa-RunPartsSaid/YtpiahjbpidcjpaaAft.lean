/- Package run: After. By an AI agent. -/
import Derived.Test.YtpiahjbpidcjpaaRun
import Derived.Test.YtpiahjbpidcjpaaLists
import Derived.Laws.Rows
import Derived.Outline
namespace Go.Proofs.Ytpiahjbpidcjpaa
open Go.RowKit Pl

section
variable {P : Program}
/-- an array's cells, read as a whole -/
theorem wpList_load_arr {ops : Array Oper} {rest : List Oper} {o : Oper} {a : Act} {w : World} {Q : Exit → Act → World → Prop} (hgd : o.guard = none) (ty : TypeId) (x : Operand) (ho : o.op = .load ty x)
    (a0 : Addr) (hx : a.eval x = .pointer (some a0)) (xs : List Value) (hc : ∀ j v, xs[j]? = some v → w.cell? (a0.add j) = some v) (m : Nat) (el : TypeId)
    (hu : P.underlying ty = some (.array m el)) (hi : (P.info? ty).map (·.size) = some xs.length)
    (h : wpList P ops Q rest (a.put o.dst (.agg xs.toArray)) w) : wpList P ops Q (o :: rest) a w := by
  refine wpList_plain hgd fun K hK => ?_
  have hl : (loadCells a0 xs.length).run P w = .ok xs.toArray w := run_loadCells_list (P := P) w a0 xs hc
  have hr : (loadVar ty a0).run P w = .ok (.agg xs.toArray) w := by
    cases hq : P.info? ty with
    | none => simp [hq] at hi
    | some i =>
      have hs : i.size = xs.length := by simpa [hq] using hi
      have hagg : (isAgg ty).run P w = .ok true w := by
        unfold isAgg
        rw [Sem.run_bind, run_underlying hu w]
        rfl
      simp [loadVar, Sem.run_bind, hagg, sizeOf, typeInfo, hq, hs, hl]
  unfold Oper.wp execOp
  simp only [ho, hx, Instr.loadAt, Instr.sureAddr, Sem.run_bind, Sem.run_pure, Result.andThen_ok, hr]
  exact hK _ _ h
/-- an element of an array that is at hand -/
theorem run_index_arr (t e : TypeId) (n : Nat) (cs : Array Value) (k : IntKind) (i : Nat) (v : Value) (h : P.underlying t = some (.array n e)) (ha : ∀ w, (isAgg e).run P w = .ok false w) (hi : i < n) (hs : (P.info? e).map (·.size) = some 1) (hv : cs[i]? = some v) (w : World) :
    (Instr.index t (.agg cs) (.int k (i : Int))).run P w = .ok v w := by
  cases hq : P.info? e with
  | none => simp [hq] at hs
  | some j =>
    have hj : j.size = 1 := by simpa [hq] using hs
    unfold Instr.index
    simp [asIntOf, Sem.run_bind, run_underlying h w, hi, sizeOf, typeInfo, hq, hj, part, ha, hv]
end
/-- the box of a state that is to be returned -/
structure StB (w : World) (W : World) : Prop where
  c0 : W.cell? ⟨w.heap.size, 0, none⟩ = some (.int .i64 0)
  c1 : W.cell? ⟨w.heap.size, 1, none⟩ = some (.slice none 0 0)
  f0 : W.frozen? ⟨w.heap.size, 0, none⟩ = false
  f1 : W.frozen? ⟨w.heap.size, 1, none⟩ = false
  size : w.heap.size < W.heap.size
  below : Below w.heap.size w W
def StB.put (w W : World) (a b : Value) : World := (W.setCell ⟨w.heap.size, 0, none⟩ a).setCell ⟨w.heap.size, 1, none⟩ b
theorem st0_new (w : World) : StB w (w.alloc (.cells #[.int .i64 0, .slice none 0 0] 26)) :=
  ⟨by rw [World.cell?_alloc_new]; rfl, by rw [World.cell?_alloc_new]; rfl, by simp, by simp, by simp, (Below.refl _ _).alloc (Nat.le_refl _) _⟩
theorem StB.later {w W W' : World} (h : StB w W) (hb : Below W.heap.size W W') : StB w W' :=
  ⟨cell_keep hb h.c0, cell_keep hb h.c1, (hb.frozen (p := ⟨w.heap.size, 0, none⟩) h.size).trans h.f0, (hb.frozen (p := ⟨w.heap.size, 1, none⟩) h.size).trans h.f1, Nat.lt_of_lt_of_le h.size hb.size, h.below.trans (hb.mono (Nat.le_of_lt h.size))⟩
theorem StB.set {w W : World} (h : StB w W) (a b : Value) : (StB.put w W a b).cell? ⟨w.heap.size, 0, none⟩ = some a ∧ (StB.put w W a b).cell? ⟨w.heap.size, 1, none⟩ = some b ∧ Below w.heap.size w (StB.put w W a b) := by
  unfold StB.put
  refine ⟨?_, ?_, (h.below.setCell (Nat.le_refl _) _).setCell (Nat.le_refl _) _⟩
  · rw [set_other (addr_ne (by omega)), set_same h.c0]
  · refine set_same (u := .slice none 0 0) ?_
    rw [set_other (addr_ne (by omega)), h.c1]
set_option maxHeartbeats 1600000 in
set_option maxRecDepth 100000 in
theorem After_form (w : World) (v : Value) (ps : List Ins) (x : ByteArray) (k : Int) (h : ArgP w v ps) (hl : ps.length ≤ 281474976710656) (hz : ∀ x ∈ ps, x.tree.length ≤ 281474976710656) (hx : x.size ≤ 281474976710656) (hn : ¬ PValid ps ∨ vld x.data.toList = false) :
    Calls Try.prog 31 #[v, .string x, .int .i64 k] w fun e w' => e = .returned (.tuple #[.agg #[.int .i64 0, .slice none 0 0], .int .i64 0, .int .i64 1]) ∧ Below w.heap.size w w' := by
  have h0 := st0_new w
  have H := Lib.hid (advance_form (w.alloc (.cells #[.int .i64 0, .slice none 0 0] 26)) v ps x k (h.below h0.below) hl hz hx hn)
  clear h hl hz hx hn
  go_enter Try.func31, Try.ntmps31
  go_wp2_with fail
  refine H.out.mono ?_
  rintro e w1 ⟨rfl, hb⟩
  have h1 := h0.later hb
  obtain ⟨p0, p1, pb⟩ := h1.set (.int .i64 0) (.slice none 0 0)
  have P0 := Lib.hid p0; have P1 := Lib.hid p1; have PB := Lib.hid pb
  unfold StB.put at P0 P1 PB
  obtain ⟨c0, c1, f0, f1, hs, _⟩ := h1
  clear h0 hb p0 p1 pb H
  go_wp2
  exact bodyPost_ret (v := .tuple #[.agg #[.int .i64 0, .slice none 0 0], .int .i64 0, .int .i64 1]) (by simp [results, Try.f31, go_sem, P0.out, P1.out]) rfl ⟨rfl, PB.out⟩
set_option maxHeartbeats 1600000 in
set_option maxRecDepth 100000 in
theorem After_arg (w : World) (v : Value) (ps : List Ins) (x : ByteArray) (k : Int) (h : ArgP w v ps) (hv : PValid ps) (hx : vld x.data.toList = true) (hk : k < 0 ∨ 10000000 < k) :
    Calls Try.prog 31 #[v, .string x, .int .i64 k] w fun e w' => e = .returned (.tuple #[.agg #[.int .i64 0, .slice none 0 0], .int .i64 0, .int .i64 2]) ∧ Below w.heap.size w w' := by
  have h0 := st0_new w
  have H := Lib.hid (advance_arg (w.alloc (.cells #[.int .i64 0, .slice none 0 0] 26)) v ps x k (h.below h0.below) hv hx hk)
  clear h hv hx hk
  go_enter Try.func31, Try.ntmps31
  go_wp2_with fail
  refine H.out.mono ?_
  rintro e w1 ⟨rfl, hb⟩
  have h1 := h0.later hb
  obtain ⟨p0, p1, pb⟩ := h1.set (.int .i64 0) (.slice none 0 0)
  have P0 := Lib.hid p0; have P1 := Lib.hid p1; have PB := Lib.hid pb
  unfold StB.put at P0 P1 PB
  obtain ⟨c0, c1, f0, f1, hs, _⟩ := h1
  clear h0 hb p0 p1 pb H
  go_wp2
  exact bodyPost_ret (v := .tuple #[.agg #[.int .i64 0, .slice none 0 0], .int .i64 0, .int .i64 2]) (by simp [results, Try.f31, go_sem, P0.out, P1.out]) rfl ⟨rfl, PB.out⟩
/-- the texts of a state's registers -/
def regTexts (s : St) : List (List UInt8) := s.regs.map tx
/-- strings in a slice's memory -/
def StrRow (w : World) (B o n : Nat) (ls : List (List UInt8)) : Prop := B < w.heap.size ∧ ∀ j, j < n → w.cell? ⟨B, o + j, none⟩ = some (.string (S (ls.getD j [])))
/-- what After returns -/
def AftOut (w : World) (ps : List Ins) (t : Tr) (K : Nat) (e : Ending) (w' : World) : Prop :=
  Below w.heap.size w w' ∧ match runTo ps K (first t) with
    | some (s, n) => ∃ B, e = .returned (.tuple #[.agg #[.int .i64 (s.at_ : Int), .slice (some ⟨B, 0, none⟩) 32 32], .int .i64 (n : Int), .int .i64 0]) ∧ w.heap.size ≤ B ∧ StrRow w' B 0 32 (regTexts s)
    | none => e = .returned (.tuple #[.agg #[.int .i64 0, .slice none 0 0], .int .i64 0, .int .i64 3])
theorem isAggNode : ∀ w, (isAgg 103).run Try.prog w = .ok false w := fun w => by
  unfold isAgg
  rw [Sem.run_bind, run_underlying Try.underlying103 w]
  rfl
theorem choose_regs {w : World} {n0 M C : Nat} {ps : List Ins} {s : St} (h : Mach w n0 M C ps s) : ∃ xs : List Value, xs.length = 32 ∧ (∀ j v, xs[j]? = some v → w.cell? ⟨M, 3 + j, none⟩ = some v) ∧ ∀ j, j < 32 → ∃ X, xs[j]? = some (.pointer X) ∧ NodeW 151 w (s.regs[j]?.getD .nil) (.pointer X) := by
  have key : ∀ j : Nat, ∃ X : Option Addr, j < 32 → w.cell? ⟨M, 3 + j, none⟩ = some (.pointer X) ∧ NodeW 151 w (s.regs[j]?.getD .nil) (.pointer X) := fun j => by
    by_cases hj : j < 32
    · obtain ⟨x, h1, h2⟩ := h.regs j hj
      obtain ⟨X, rfl⟩ := h2.one
      exact ⟨X, fun _ => ⟨h1, h2⟩⟩
    · exact ⟨none, fun h => absurd h hj⟩
  obtain ⟨f, hf⟩ := Classical.axiomOfChoice key
  refine ⟨(List.range 32).map fun j => .pointer (f j), by simp, fun j v hv => ?_, fun j hj => ⟨f j, by simp [hj], (hf j hj).2⟩⟩
  have hj : j < 32 := by have := (List.getElem?_eq_some_iff.1 hv).1; simpa using this
  have : v = .pointer (f j) := by simpa [hj] using hv.symm
  rw [this]
  exact (hf j hj).1
set_option maxHeartbeats 3200000 in
set_option maxRecDepth 100000 in
theorem After_none (w : World) (v : Value) (ps : List Ins) (x : ByteArray) (K : Nat) (h : ArgP w v ps) (hv : PValid ps) (hx : vld x.data.toList = true) (hk : K ≤ 10000000) (hr : runTo ps K (first (rd x.data.toList)) = none) :
    Calls Try.prog 31 #[v, .string x, .int .i64 (K : Int)] w (AftOut w ps (rd x.data.toList) K) := by
  have h0 := st0_new w
  have H := Lib.hid (advance_run (w.alloc (.cells #[.int .i64 0, .slice none 0 0] 26)) v ps x K (h.below h0.below) hv hx hk)
  have HR := Lib.hid hr
  clear h hv hx hk hr
  go_enter Try.func31, Try.ntmps31
  go_wp2_with fail
  refine H.out.mono ?_
  rintro e w1 ⟨hb, he⟩
  rw [HR.out] at he
  obtain rfl := he
  have h1 := h0.later hb
  obtain ⟨p0, p1, pb⟩ := h1.set (.int .i64 0) (.slice none 0 0)
  have P0 := Lib.hid p0; have P1 := Lib.hid p1; have PB := Lib.hid pb
  unfold StB.put at P0 P1 PB
  obtain ⟨c0, c1, f0, f1, hs, _⟩ := h1
  clear h0 hb p0 p1 pb H
  go_wp2
  exact bodyPost_ret (v := .tuple #[.agg #[.int .i64 0, .slice none 0 0], .int .i64 0, .int .i64 3]) (by simp [results, Try.f31, go_sem, P0.out, P1.out]) rfl ⟨PB.out, by rw [HR.out]⟩
set_option maxHeartbeats 3200000 in
set_option maxRecDepth 100000 in
theorem After_some (w : World) (v : Value) (ps : List Ins) (x : ByteArray) (K n : Nat) (s : St) (h : ArgP w v ps) (hv : PValid ps) (hx : vld x.data.toList = true) (hk : K ≤ 10000000) (hr : runTo ps K (first (rd x.data.toList)) = some (s, n)) :
    Calls Try.prog 31 #[v, .string x, .int .i64 (K : Int)] w (AftOut w ps (rd x.data.toList) K) := by
  obtain ⟨i0, hi, hz0, hz1, hz2⟩ := info_parts Try.infoStr
  have h0 := st0_new w
  have H := Lib.hid (advance_run (w.alloc (.cells #[.int .i64 0, .slice none 0 0] 26)) v ps x K (h.below h0.below) hv hx hk)
  have hf : (first (rd x.data.toList)).ok ps.length := first_ok _ (by rw [tx_rd hx]; exact (vld_iff.1 hx).1)
  have HOK := Lib.hid ((runTo_some hr).1.ok hv hf)
  have HR := Lib.hid hr
  clear h hv hx hk hr hf
  generalize rd x.data.toList = t at *
  go_enter Try.func31, Try.ntmps31
  go_wp2_with fail
  refine H.out.mono ?_
  rintro e w1 ⟨hb, he⟩
  rw [HR.out] at he
  obtain ⟨n0, M, C, rfl, hM, hn0⟩ := he
  have h1 := h0.later hb
  have H1 := Lib.hid h1
  have HM := Lib.hid hM
  have hs1 := h1.size
  clear hM h0 hb h1 H
  go_wp2_with (at_make; refine wpList_make_full _ rfl _ _ 24 rfl w1.heap.size 9 i0 (.string ⟨#[]⟩) 1 Try.underlying24 hi hz0 hz1 .i64 .i64 _ _ 32 rfl rfl rfl rfl (by rw [hz2]; omega) (by unfold maxLen; omega) (Nat.le_refl _) ?_)
  intro w2 hown hgrow
  have hb2 : Below w1.heap.size w1 w2 := (Below.refl _ _).grown hgrow (Nat.le_refl _) (by simp)
  obtain ⟨ys, HO⟩ : ∃ ys, Hid (w2.ownsRow w1.heap.size 9 1 (.slice (some ⟨w1.heap.size, 0, none⟩) 32 32) 32 ys) := ⟨_, Lib.hid hown⟩
  have HM2 := Lib.hid (HM.out.below hb2)
  have H2 := Lib.hid (H1.out.later hb2)
  obtain ⟨xs, hxl, hxc, hxn⟩ := choose_regs HM.out
  have HXL := Lib.hid hxl
  have HXC : Hid (∀ j v, xs[j]? = some v → w2.cell? ⟨M, 3 + j, none⟩ = some v) := Lib.hid fun j v hj => cell_keep hb2 (hxc j v hj)
  have HXN := Lib.hid hxn
  have HB2 := Lib.hid hb2
  have HI : Hid (∀ (k : Nat) (X : Option Addr), k < 32 → xs[k]? = some (.pointer X) → ∀ (w : World), (Instr.index 104 (.agg xs.toArray) (.int .i64 (k : Int))).run Try.prog w = .ok (.pointer X) w) := Lib.hid fun k X hk hx w => by
    refine run_index_arr 104 103 32 _ .i64 k _ Try.underlying104 isAggNode hk (by kernel_rfl) ?_ w
    simpa using hx
  clear hown hgrow hxl hxc hxn hb2 hi hz0 hz1 hz2
  go_wp2_with (with_reducible refine wpList_load_arr ?lg 104 (.tmp 30) ?lo ⟨M, 3, none⟩ ?lx xs ?lc 32 103 ?lu ?li ?lh
               case lo => with_reducible exact rfl)
  case lg => exact rfl
  case lu => exact Try.underlying104
  case lx => exact rfl
  case lc =>
    intro j v hv
    have h0 := HXC.out j v hv
    by_cases hj : j = 0
    · subst hj; simpa [Addr.add] using h0
    · simpa [Addr.add, hj] using h0
  case li =>
    rw [HXL.out]
    kernel_rfl
  generalize hA : xs.toArray = A at HI ⊢
  generalize hB : w1.heap.size = B at HO HB2 ⊢
  have HBB := Lib.hid hB.symm
  clear hA hB HM2 HXC
  go_loopw [32] (fun i wr => ∃ (k : Nat) (zs : List Value), k ≤ 32 ∧ i = .int .i64 k ∧ Hid (wr.ownsRow B 9 1 (.slice (some ⟨B, 0, none⟩) 32 32) 32 zs) ∧ Hid (∀ j, j < k → zs[j]? = some (.string (S ((regTexts s).getD j [])))) ∧ Below B w1 wr) (fun i _ => 32 - (intOf i).toNat)
  case atStart => exact ⟨0, ys, Nat.zero_le _, rfl, HO, Lib.hid (fun j hj => absurd hj (Nat.not_lt_zero _)), HB2.out⟩
  case round =>
    obtain ⟨k, zs, hk, rfl, HO, HZ, hb⟩ := hrel
    by_cases hlt : k < 32
    · obtain ⟨X, hx, hnd⟩ := HXN.out k hlt
      have hi := HI.out k X hlt hx
      have HT := Lib.hid (text_any (s.regs[k]?.getD .nil) (.pointer X) wr (NodeW.below hnd (by rw [← HBB.out]; exact hb)) (by
        obtain ⟨_, h32, hreg⟩ := HOK.out
        rw [List.getElem?_eq_getElem (by omega)]
        exact hreg _ (List.getElem_mem _)))
      have hBw : B ≤ wr.heap.size := by have := HBB.out; have := hb.size; omega
      have hk1 : (k : Int) < 32 := by omega
      have hk0 : (0 : Int) ≤ (k : Int) := by omega
      obtain ⟨u0, hu0⟩ := own_cell1 HO.out k hlt
      have hf0 := HO.out.frozenAt k
      have HU0 := Lib.hid hu0
      have HF0 := Lib.hid hf0
      have HBL := Lib.hid hb
      clear hx hnd hu0 hf0 hb
      go_wp2_with (go_at_call 73; refine (HT.out).mono ?_)
      rintro e w3 ⟨rfl, hb3⟩
      have c3 := cell_keep hb3 HU0.out
      have f3 := (hb3.frozen (p := ⟨B, k, none⟩) (cell_lt HU0.out)).trans HF0.out
      have HO3 := Lib.hid ((own_below HO.out hb3).stored k (.string (S (tx (s.regs[k]?.getD .nil))))).1
      have HB3 := Lib.hid ((HBL.out.trans (hb3.mono hBw)).setCell (p := ⟨B, k, none⟩) (Nat.le_refl B) (.string (S (tx (s.regs[k]?.getD .nil)))))
      have HZ3 : Hid (∀ j, j < k + 1 → (zs.set k (.string (S (tx (s.regs[k]?.getD .nil)))))[j]? = some (.string (S ((regTexts s).getD j [])))) := Lib.hid (by
        have hl : zs.length = 32 := by have := HO.out.1; omega
        have h32 := HOK.out.2.1
        intro j hj
        by_cases e : j = k
        · subst e
          rw [List.getElem?_set_self (by omega)]
          simp [regTexts, List.getD, show j < s.regs.length by omega]
        · rw [List.getElem?_set_ne (fun h => e h.symm)]
          exact HZ.out j (by omega))
      clear hb3
      go_wp2_with fail
      go_roundw
      case rel => exact ⟨k + 1, _, by omega, by go_num, HO3, HZ3, HB3.out⟩
      case measure => simp [intOf]; omega
    · obtain rfl : k = 32 := by omega
      have h3 := H1.out.later (by rw [HBB.out] at hb; exact hb)
      obtain ⟨p0, p1, pb⟩ := h3.set (.int .i64 (s.at_ : Int)) (.slice (some ⟨B, 0, none⟩) 32 32)
      have P0 := Lib.hid p0; have P1 := Lib.hid p1; have PB := Lib.hid pb
      unfold StB.put at P0 P1 PB
      obtain ⟨c0, c1, f0, f1, hs, _⟩ := h3
      have m2 : wr.cell? ⟨M, 2, none⟩ = some (.int .i64 (s.at_ : Int)) := cell_keep (w := w1) (by rw [HBB.out] at hb; exact hb) HM.out.place
      have HBL := Lib.hid hb
      clear hb p0 p1 pb H1 HM H2
      go_wp2
      refine bodyPost_ret (v := .tuple #[.agg #[.int .i64 (s.at_ : Int), .slice (some ⟨B, 0, none⟩) 32 32], .int .i64 (n : Int), .int .i64 0]) (by simp [results, Try.f31, go_sem, P0.out, P1.out]) rfl ⟨PB.out, ?_⟩
      rw [HR.out]
      have hwB : w.heap.size < B := by rw [HBB.out]; exact hs1
      refine ⟨B, rfl, by omega, ?_, fun j hj => ?_⟩
      · have h1 := own_tag HO.out (k := B) rfl
        have h2 := h1.lt
        simpa using h2
      · have e1 : ∀ o, (⟨w.heap.size, o, none⟩ : Addr) ≠ ⟨B, 0 + j, none⟩ := fun o e => by injection e with e1; omega
        rw [set_other (e1 _), set_other (e1 _), Nat.zero_add, HO.out.cellAt j (by omega)]
        exact HZ.out j hj
end Go.Proofs.Ytpiahjbpidcjpaa
