/- Package spec: a writer in memory, and what it adds. By an AI agent. -/
import Derived.Test.YtmhoacnbmbhcjaaGreatDoorPrg
import Derived.Test.YtmhoacnbmbhcjaaGreatDoorBase
import Derived.Deep.AppendLies
import Derived.Deep.RegionHeld3
import Derived.Outline
import Derived.Test.YtmhoacnbmbhcjaaGreatDoorMth
import Derived.Test.YtmhoacnbmbhcjaaGreatDoorRunB
import Derived.Test.YtmhoacnbmbhcjaaGreatDoorBld4
namespace Go.Proofs.YtmhoacnbmbhcjaaGreatDoor
open Go.RowKit Pl

/-- block X has changed, and the row that began as v; nothing else that was there -/
structure Far (X : Nat) (v : Value) (w w' : World) : Prop where
  os : w'.os = w.os
  tape : w'.tape = w.tape
  output : w'.output = w.output
  size : w.heap.size ≤ w'.heap.size
  block : ∀ k, k < w.heap.size → k ≠ X → some k ≠ v.ownBlock → w'.heap[k]? = w.heap[k]?
/-- what a writer is: where it lies, and what it holds -/
structure WrAt (w : World) (X B : Nat) (v : Value) (ps : List Ins) : Prop where
  mem : w.heap[X]? = some (.cells #[v] 77 (0, 0))
  own : w.ownsRow B 64 5 v ps.length (progV ps)
  lt : X < B
  le : B ≤ w.heap.size
theorem Far.refl (X : Nat) (v : Value) (w : World) : Far X v w w := ⟨rfl, rfl, rfl, Nat.le_refl _, fun _ _ _ _ => rfl⟩
theorem Far.prog {X b off : Nat} {v : Value} {w w' : World} {qs : List Ins} (h : Far X v w w') (hc : ProgAt w b off qs) (hX : b ≠ X) (hv : v.ownBlock ≠ some b) : ProgAt w' b off qs := by
  have e : ∀ o, w'.cell? ⟨b, o, none⟩ = w.cell? ⟨b, o, none⟩ := fun o => World.cell?_of_block (w := w) (a := ⟨b, o, none⟩) (h.block b hc.1 hX fun e => hv e.symm)
  refine ⟨Nat.lt_of_lt_of_le hc.1 h.size, fun k x hk => ?_⟩
  have := hc.2 k x hk
  simpa only [e] using this
theorem take_one {qs : List Ins} {k : Nat} {x : Ins} (h : qs[k]? = some x) : qs.take (k + 1) = qs.take k ++ [x] := by
  obtain ⟨hk, rfl⟩ := List.getElem?_eq_some_iff.1 h
  rw [List.take_succ_eq_append_getElem hk]
theorem alloc_belowW (w : World) (o : Obj) : Below w.heap.size w (w.alloc o) := (Below.refl _ _).alloc (Nat.le_refl _) o
theorem own_below' {B k n : Nat} {e : TypeId} {v : Value} {xs : List Value} {w w' : World} (h : w.ownsRow B e k v n xs) (hb : Below w.heap.size w w') : w'.ownsRow B e k v n xs :=
  h.kept (row := none) ⟨hb.os, hb.tape, hb.output, hb.size, fun k hk _ => hb.block k hk⟩ (by cases v.ownBlock <;> simp)
theorem add_close {w wr w2 w3 : World} {X B k M gg cap1 L : Nat} {v0 v : Value} {ps qs : List Ins} {x : Ins} {ob : Obj} (hL : (ps ++ qs.take k).length = L) (HW : WrAt wr X B v (ps ++ qs.take k)) (hx : qs[k]? = some x) (hM : wr.heap.size = M) (HV : v.ownBlock = v0.ownBlock ∨ ∀ g, v.ownBlock = some g → w.heap.size ≤ g) (HF : Far X v0 w wr) (HB : Below M wr w2)
    (ho : w3.ownsRow B 64 5 (.slice (some ⟨gg, 0, none⟩) (L + 1) cap1) (L + 1) (progV (ps ++ qs.take k) ++ x.cells)) (hg : (w2.drew.alloc ob).grownBy w3 v.ownBlock) (hat : v.ownBlock = some gg ∨ gg = w2.heap.size + 1) :
    WrAt (w3.setCell ⟨X, 0, none⟩ (.slice (some ⟨gg, 0, none⟩) (L + 1) cap1)) X B (.slice (some ⟨gg, 0, none⟩) (L + 1) cap1) (ps ++ qs.take (k + 1)) ∧
    ((Value.slice (some ⟨gg, 0, none⟩) (L + 1) cap1).ownBlock = v0.ownBlock ∨ ∀ g, (Value.slice (some ⟨gg, 0, none⟩) (L + 1) cap1).ownBlock = some g → w.heap.size ≤ g) ∧
    Far X v0 w (w3.setCell ⟨X, 0, none⟩ (.slice (some ⟨gg, 0, none⟩) (L + 1) cap1)) := by
  subst hM
  have hXlt : X < wr.heap.size := (Array.getElem?_eq_some_iff.1 HW.mem).1
  have hs2 := HB.size
  have hs3 := hg.size
  have hs5 : (w2.drew.alloc ob).heap.size = w2.heap.size + 1 := by simp
  rw [hs5] at hs3
  have hne : some X ≠ v.ownBlock := fun e => by have := (HW.own.lt X e.symm).1; have := HW.lt; omega
  have hblk : ∀ k, k < wr.heap.size → some k ≠ v.ownBlock → w3.heap[k]? = wr.heap[k]? := fun j hj hr => by
    rw [hg.block j (by simp; omega) hr, Lib.alloc_old _ _ _ (by simp; omega)]
    exact HB.block j hj
  have hX3 : w3.heap[X]? = some (.cells #[v] 77 (0, 0)) := (hblk X hXlt hne).trans HW.mem
  generalize hnv : Value.slice (some ⟨gg, 0, none⟩) (L + 1) cap1 = nv at *
  have hgb : nv.ownBlock = some gg := by rw [← hnv]; rfl
  have hle := HW.le
  refine ⟨⟨?_, ?_, HW.lt, ?_⟩, ?_, ⟨?_, ?_, ?_, ?_, fun j hj h1 h2 => ?_⟩⟩
  · exact Lib.heap_setCell_same (i := 0) hX3 nv
  · rw [take_one hx, ← List.append_assoc, List.length_append, hL, progV_app, progV_one]
    exact ownsRow_setCell_below ho (a := ⟨X, 0, none⟩) HW.lt nv
  · simp; omega
  · rcases hat with h | h
    · rw [hgb, ← h]; exact HV
    · right; intro g hg'; rw [hgb] at hg'; cases hg'; have := HF.size; omega
  · exact (hg.os.trans HB.os).trans HF.os
  · exact (hg.tape.trans HB.tape).trans HF.tape
  · exact (hg.output.trans HB.output).trans HF.output
  · have := HF.size; simp; omega
  · rw [Below.heap_setCell _ _ _ _ h1]
    refine (hblk j (by have := HF.size; omega) fun e => ?_).trans (HF.block j hj h1 h2)
    rcases HV with h | h
    · exact h2 (e.trans h)
    · have := h j e.symm; omega
set_option maxHeartbeats 1600000 in
set_option maxRecDepth 100000 in
theorem add_some (w : World) (X B b off cap n : Nat) (v0 : Value) (ps qs : List Ins) (h : WrAt w X B v0 ps) (hc : ProgAt w b off qs) (hq : qs.length = n) (hbX : b ≠ X) (hbv : v0.ownBlock ≠ some b) (hn : (ps.length + n) * 48 ≤ 140737488355328) (hz : ∀ x ∈ qs, x.tree.length ≤ 281474976710656) :
    Calls Tryz.prog 124 #[.pointer (some ⟨X, 0, none⟩), .slice (some ⟨b, off, none⟩) n cap] w fun e w' => e = .returned (.tuple #[]) ∧ ∃ v', WrAt w' X B v' (ps ++ qs) ∧ Far X v0 w w' := by
  obtain ⟨i0, hi, hz0, hz1, hz2⟩ := info_parts Tryz.infoIns
  have HC := Lib.hid hc; have HQ := Lib.hid hq; have HBX := Lib.hid hbX; have HBV := Lib.hid hbv; have HZ := Lib.hid hz; have H0 := Lib.hid h
  have hn2 : n ≤ 281474976710656 := by omega
  clear h hc hq hbX hbv hz
  go_enter Tryz.func124, Tryz.ntmps124
  go_wp2
  go_loopw [8] (fun i wr => ∃ (k : Nat) (v : Value), k ≤ n ∧ i = .int .i64 k ∧ Hid (WrAt wr X B v (ps ++ qs.take k)) ∧ Hid (v.ownBlock = v0.ownBlock ∨ ∀ g, v.ownBlock = some g → w.heap.size ≤ g) ∧ Hid (Far X v0 w wr)) (fun i _ => n - (intOf i).toNat)
  case atStart => exact ⟨0, v0, Nat.zero_le _, rfl, Lib.hid (by simpa using H0.out), Lib.hid (.inl rfl), Lib.hid (Far.refl _ _ _)⟩
  case round =>
    obtain ⟨k, v, hk, rfl, HW, HV, HF⟩ := hrel
    by_cases hlt : k < n
    · have hk1 : (k : Int) < (n : Int) := by omega
      obtain ⟨x, hx⟩ := get_at (ps := qs) (k := k) (by rw [HQ.out]; exact hlt)
      obtain ⟨a0, a1, a2, a3, a4⟩ := (HF.out.prog HC.out HBX.out HBV.out).2 k x hx
      have hcl : x.tree.length ≤ 281474976710656 := HZ.out x (List.mem_of_getElem? hx)
      have HX := Lib.hid hx
      have HLEN : Hid (((ps ++ qs.take k).length + 1) * 48 ≤ 140737488355328) := Lib.hid (by rw [List.length_append, List.length_take]; omega)
      generalize hL : (ps ++ qs.take k).length = L at *
      have HL := Lib.hid hL
      clear hL
      obtain ⟨op, a, b1, c, t⟩ := x
      simp only at a0 a1 a2 a3 a4 hcl
      clear hx
      have cX : wr.cell? ⟨X, 0, none⟩ = some v := Lib.cell_of_heap HW.out.mem 0
      have HB0 := Lib.hid (alloc_belowW wr (.cells #[.int .i64 op, .int .i64 a, .int .i64 b1, .int .i64 c, .string (S t)] 64))
      have HM0 := Lib.hid (heap_alloc_new wr (.cells #[.int .i64 op, .int .i64 a, .int .i64 b1, .int .i64 c, .string (S t)] 64))
      go_wp2_with fail
      refine (Clone_any _ _ (by rw [S_size]; exact hcl)).mono ?_
      rintro e w1 ⟨rfl, hb1⟩
      have HB1 := Lib.hid (bstep HB0.out hb1)
      have hm1 : w1.heap[wr.heap.size]? = some (.cells #[.int .i64 op, .int .i64 a, .int .i64 b1, .int .i64 c, .string (S t)] 64 (0, 0)) := (hb1.block wr.heap.size (by simp)).trans HM0.out
      have hX1 : w1.heap[X]? = some (.cells #[v] 77 (0, 0)) := (HB1.out.block X (by have := HW.out.lt; have := HW.out.le; omega)).trans HW.out.mem
      generalize hM : wr.heap.size = M at *
      have HO1 := Lib.hid (own_below' HW.out.own (by rw [hM]; exact HB1.out))
      have HX1 := Lib.hid hX1; have HM1 := Lib.hid hm1
      have HMB : Hid (B ≤ M) := Lib.hid (by rw [← hM]; exact HW.out.le)
      have HM := Lib.hid hM
      have m4 : w1.cell? ⟨M, 4, none⟩ = some (.string (S t)) := Lib.cell_of_heap hm1 4
      have f4 : w1.frozen? ⟨M, 4, none⟩ = false := by simp [World.frozen?, hm1]
      have HMX : Hid (M ≠ X) := Lib.hid (by have := HW.out.lt; have := HMB.out; omega)
      clear hb1 hm1 hX1 hM a0 a1 a2 a3 a4 cX
      go_wp2_with fail
      have hm2 : (w1.setCell ⟨M, 4, none⟩ (.string (S t))).heap[M]? = some (.cells #[.int .i64 op, .int .i64 a, .int .i64 b1, .int .i64 c, .string (S t)] 64 (0, 0)) := by
        have h9 := Lib.heap_setCell_same (i := 4) HM1.out (.string (S t))
        simpa using h9
      have hX2 : (w1.setCell ⟨M, 4, none⟩ (.string (S t))).heap[X]? = some (.cells #[v] 77 (0, 0)) := by
        rw [Below.heap_setCell _ _ _ _ (fun e => HMX.out e.symm)]; exact HX1.out
      have HB2 : Hid (Below M wr (w1.setCell ⟨M, 4, none⟩ (.string (S t)))) := Lib.hid (by
        have h9 := HB1.out
        exact h9.setCell (p := ⟨M, 4, none⟩) (Nat.le_refl M) _)
      have hlt2 : M < (w1.setCell ⟨M, 4, none⟩ (.string (S t))).heap.size := (Array.getElem?_eq_some_iff.1 hm2).1
      clear m4 f4
      generalize w1.setCell ⟨M, 4, none⟩ (.string (S t)) = w2 at *
      have HO2 := Lib.hid (own_below' HW.out.own (by rw [HM.out]; exact HB2.out))
      rw [HL.out] at HO2
      have HM2 := Lib.hid hm2; have HX2 := Lib.hid hX2; have HL2 := Lib.hid hlt2
      have b0 : w2.cell? ⟨M, 0, none⟩ = some (.int .i64 op) := Lib.cell_of_heap hm2 0
      have b2 : w2.cell? ⟨M, 1, none⟩ = some (.int .i64 a) := Lib.cell_of_heap hm2 1
      have b3 : w2.cell? ⟨M, 2, none⟩ = some (.int .i64 b1) := Lib.cell_of_heap hm2 2
      have b4 : w2.cell? ⟨M, 3, none⟩ = some (.int .i64 c) := Lib.cell_of_heap hm2 3
      have b5 : w2.cell? ⟨M, 4, none⟩ = some (.string (S t)) := Lib.cell_of_heap hm2 4
      have cX : w2.cell? ⟨X, 0, none⟩ = some v := Lib.cell_of_heap hX2 0
      have cXa : (w2.alloc (.cells #[.int .i64 op, .int .i64 a, .int .i64 b1, .int .i64 c, .string (S t)] 64)).cell? ⟨X, 0, none⟩ = some v := cell_keep (alloc_belowW _ _) cX
      have fX : w2.frozen? ⟨X, 0, none⟩ = false := by simp [World.frozen?, hX2]
      have HNE : Hid (some X ≠ v.ownBlock) := Lib.hid fun e => by have := (HO2.out.lt X e.symm).1; have := HW.out.lt; omega
      have HXA := Lib.hid cXa
      have HFA : Hid ((w2.drew.alloc (.cells #[.int .i64 op, .int .i64 a, .int .i64 b1, .int .i64 c, .string (S t)] 64)).frozen? ⟨X, 0, none⟩ = false) := Lib.hid (((alloc_belowW w2.drew _).frozen (p := ⟨X, 0, none⟩) (cell_lt cX)).trans fX)
      clear hm2 hX2 hlt2
      go_region_law (refine step_append_lies _ (by rfl) _ _ _ (by rfl) B 64 i0 _ 5 48 Tryz.underlying23 hi hz0 hz1 hz2 rfl (by omega) _ _ _ (by rfl) (HO2.out.drew.alloc _) ⟨w2.heap.size, 0, none⟩ 1 1 [.int .i64 op, .int .i64 a, .int .i64 b1, .int .i64 c, .string (S t)] (by rfl) (by rfl) (World.news_of_block (cs := #[.int .i64 op, .int .i64 a, .int .i64 b1, .int .i64 c, .string (S t)]) (t := 64) (fr := (0, 0)) (heap_alloc_new w2.drew _)) (by simp [Value.oneCell']) (by omega) (by have := HLEN.out; unfold maxLen; omega) (by have := HLEN.out; omega) (by have := HW.out.le; have := HB2.out.size; simp; omega) (w2.heap.size + 1) (by simp) ?_; intro gg cap1 w3 hown3 hgrow3 hat hlt1; have j1 := hgrow3.cell (a := ⟨X, 0, none⟩) HXA.out HNE.out; have j2 := (hgrow3.frozen_far ⟨X, 0, none⟩ (cell_lt HXA.out) HNE.out).trans HFA.out)
      all_goals
        have hfin := Lib.hid (add_close HL.out HW.out HX.out HM.out HV.out HF.out HB2.out hown3 hgrow3 hat)
        clear j1 j2 hown3 hgrow3 hat hlt1 b0 b2 b3 b4 b5 cX cXa fX
        go_wp2_with fail
        go_roundw
        case rel => exact ⟨k + 1, _, by omega, by go_num, Lib.hid hfin.out.1, Lib.hid hfin.out.2.1, Lib.hid hfin.out.2.2⟩
        case measure => simp [intOf]; omega
    · obtain rfl : k = n := by omega
      have HE : Hid (ps ++ qs.take k = ps ++ qs) := Lib.hid (by rw [List.take_of_length_le (by rw [HQ.out]; exact Nat.le_refl _)])
      rw [HE.out] at HW
      go_wp2_with fail
      go_end0
      exact ⟨rfl, _, HW.out, HF.out⟩
end Go.Proofs.YtmhoacnbmbhcjaaGreatDoor

namespace Go.Proofs.YtmhoacnbmbhcjaaGreatDoor
open Go.RowKit Pl

def supplyL (d : List UInt8) : List Ins := [setI 1 d, consI 0 1 0, setI 1 [48]]
def specL (p : List Ins) (d : List UInt8) : List Ins := supplyL d ++ p
theorem allR_supply {d : List UInt8} (hd : vld d = true) (pre post : Nat) : Rights pre (supplyL d) post :=
  rights_cons.2 ⟨right_set (by omega) (by omega) hd, rights_cons.2 ⟨right_cons (by omega) (by omega) (by omega) (by omega) (by omega) (by omega), rights_one.2 (right_set (by omega) (by omega) vld_0)⟩⟩
theorem allR_spec {p : List Ins} {d : List UInt8} (hp : PValid p) (hd : vld d = true) : AllR (specL p d) :=
  rights_all.1 (rights_app.2 ⟨allR_supply hd _ _, rights_of hp.2.2 _ _⟩)
theorem spec_out {p : List Ins} {d : Tr} (hp : PValid p) {x : Tr} (K : Nat) :
    out (specL p (tx d)) (K + 3) (first x) = if (tx (.pair d x)).length ≤ 2000000 then (out p K (first (.pair d x))).later 3 else .size := by
  generalize hcs : specL p (tx d) = cs at *
  have c1 : cs = [] ++ setI 1 (tx d) :: ([consI 0 1 0, setI 1 [48]] ++ p) := by rw [← hcs]; rfl
  have c2 : cs = [setI 1 (tx d)] ++ consI 0 1 0 :: ([setI 1 [48]] ++ p) := by rw [← hcs]; rfl
  have c3 : cs = [setI 1 (tx d), consI 0 1 0] ++ setI 1 [48] :: p := by rw [← hcs]; rfl
  have c4 : cs = [setI 1 (tx d), consI 0 1 0, setI 1 [48]] ++ p ++ [] := by rw [← hcs]; simp [specL, supplyL]
  have st0 := start_first x 32 (Nat.le_refl _)
  obtain ⟨s1, k1, k2, k3, k4⟩ := do_set c1 st0.here (n := 1) rfl (by omega)
  rw [rd_tx] at k3
  have h10 : s1.regs[0]? = some x := by rw [k4 0 (by omega)]; exact st0.r0
  by_cases hz : (tx (.pair d x)).length ≤ 2000000
  · rw [if_pos hz]
    obtain ⟨s2, m1, m2, m3, m4⟩ := do_cons c2 (s := s1) k2 (n := 0) rfl (by omega) (k := 1) (l := 0) rfl rfl k3 h10 hz
    obtain ⟨s3, n1, n2, n3, n4⟩ := do_set c3 (s := s2) m2 (n := 1) rfl (by omega)
    rw [rdp_0] at n3
    have hst : Start ([setI 1 (tx d), consI 0 1 0, setI 1 [48]] : List Ins).length 32 (.pair d x) s3 := ⟨n2, by rw [n4 0 (by omega)]; exact m3, fun r h1 h2 => by
      by_cases e : r = 1
      · subst e; exact n3
      · rw [n4 r e, m4 r (by omega), k4 r e]; exact st0.rest r h1 h2⟩
    have hs := (k1.then m1).then n1
    have hsim := hst.sim (Nat.le_refl _)
    have hf := first_ok p.length hz
    have hm : regs p ≤ (32 : Nat) := regs_le hp
    rw [show K + 3 = 1 + 1 + 1 + K from by omega, out_steps hs]
    congr 1
    cases ho : out p K (first (.pair d x)) with
    | ok z k =>
      obtain ⟨h1, t, h2, h3, h4, h5, h6⟩ := part_ok c4 hp hm hsim hf ho
      rw [out_end h2 h1 (by rw [h3, c4]; simp only [List.length_append, List.length_nil]; omega)]
      congr 1
      exact reg_of (n := 0) rfl h5
    | size => exact part_size c4 hp hm hsim hf ho
    | fuel => exact part_fuel c4 hp hm hsim hf ho
  · rw [if_neg hz]
    obtain ⟨h1, h2⟩ := no_cons c2 (s := s1) k2 (k := 1) (l := 0) rfl rfl k3 h10 (by omega)
    exact out_large k1 (by omega) h1 h2
theorem out_res (ps : List Ins) (K : Nat) (t : Tr) : runRes ps K t = match out ps K (first t) with
    | .ok y n => .tuple #[.string (S (tx y)), .int .i64 (n : Int), .int .i64 0]
    | .size => .tuple #[.string (S []), .int .i64 0, .int .i64 3]
    | .fuel => .tuple #[.string (S []), .int .i64 0, .int .i64 7] := by
  unfold runRes out
  cases runTo ps K (first t) with
  | none => rfl
  | some r =>
    obtain ⟨s, n⟩ := r
    simp only
    by_cases h : s.at_ = ps.length
    · rw [if_pos h, if_pos h]
    · rw [if_neg h, if_neg h]
def pHead : List Ins := [⟨3, 0, 0, 0, []⟩]
theorem pHead_valid : PValid pHead := (fits_valid (rights_all.1 (rights_one.2 (by decide)))).2 ⟨by decide, by decide⟩
theorem out_head (K : Nat) (t : Tr) : out pHead (K + 1) (first t) = .ok (hdT t) 1 := by
  have h : Steps pHead (first t) 1 ((first t).put 0 (hdT t)) := .succ .zero (Nat.zero_ne_one) rfl
  rw [out_end h (by omega) rfl]; rfl
theorem out_nil (K : Nat) (t : Tr) : out [] K (first t) = .ok t 0 := by
  rw [out_end .zero (by omega) rfl]; rfl
theorem spec_run1 : runRes (specL pHead [49, 48, 48]) 10 (rd [48]) = .tuple #[.string (S [49, 48, 48]), .int .i64 4, .int .i64 0] := by
  rw [out_res, rdp_0]
  have h := spec_out (d := .pair .nil .nil) pHead_valid (x := .nil) 7
  rw [if_pos (by decide), out_head 6] at h
  rw [show (specL pHead [49, 48, 48]) = specL pHead (tx (.pair .nil .nil)) from rfl, h]; rfl
theorem spec_run2 : runRes (specL [] [49, 48, 48]) 10 (rd [49, 48, 49, 48, 48]) = .tuple #[.string (S [49, 49, 48, 48, 49, 48, 49, 48, 48]), .int .i64 3, .int .i64 0] := by
  rw [out_res, rd_10100]
  have h := spec_out (d := .pair .nil .nil) pNil_valid (x := .pair .nil (.pair .nil .nil)) 7
  rw [if_pos (by decide), out_nil 7] at h
  rw [show (specL [] [49, 48, 48]) = specL [] (tx (.pair .nil .nil)) from rfl, h]; rfl
theorem spec_valid1 : PValid (specL pHead [49, 48, 48]) := (fits_valid (allR_spec pHead_valid vld_100)).2 ⟨by decide, by decide⟩
theorem spec_valid2 : PValid (specL [] [49, 48, 48]) := (fits_valid (allR_spec pNil_valid vld_100)).2 ⟨by decide, by decide⟩
end Go.Proofs.YtmhoacnbmbhcjaaGreatDoor

namespace Go.Proofs.YtmhoacnbmbhcjaaGreatDoor
open Go.RowKit Pl

theorem Far.below {X B : Nat} {v : Value} {w w' : World} (h : Far X v w w') (hX : B ≤ X) (hv : ∀ g, v.ownBlock = some g → B ≤ g) (hs : B ≤ w.heap.size) : Below B w w' :=
  ⟨h.os, h.tape, h.output, h.size, fun k hk => h.block k (by omega) (by omega) fun e => by have := hv k e.symm; omega⟩
theorem WrAt.below {w w' : World} {X B : Nat} {v : Value} {ps : List Ins} (h : WrAt w X B v ps) (hb : Below w.heap.size w w') : WrAt w' X B v ps :=
  ⟨(hb.block X (Array.getElem?_eq_some_iff.1 h.mem).1).trans h.mem, own_below' h.own hb, h.lt, Nat.le_trans h.le hb.size⟩
theorem WrAt.away {w : World} {X B : Nat} {v : Value} {ps : List Ins} (h : WrAt w X B v ps) {g : Nat} (hg : v.ownBlock = some g) : g ≠ X ∧ g < w.heap.size :=
  ⟨fun e => by have := (h.own.lt g hg).1; have := h.lt; omega, (h.own.lt g hg).2⟩
set_option maxHeartbeats 800000 in
set_option maxRecDepth 100000 in
theorem add_none (w : World) (X cap : Nat) (a : Option Addr) :
    Calls Tryz.prog 124 #[.pointer (some ⟨X, 0, none⟩), .slice a 0 cap] w fun e w' => e = .returned (.tuple #[]) ∧ w = w' := by
  go_enter Tryz.func124, Tryz.ntmps124
  go_wp2
  go_loop [8] (fun i => i = .int .i64 0) (fun _ => 0)
  case atStart => rfl
  case round =>
    subst hrel
    go_wp2
    go_end0
    exact ⟨rfl, rfl⟩
theorem add_arg (w : World) (X B : Nat) (v0 u : Value) (ps qs : List Ins) (h : WrAt w X B v0 ps) (hA : ArgP w u qs) (hb : ∀ b, 0 < qs.length → u.ownBlock = some b → b ≠ X ∧ v0.ownBlock ≠ some b) (hn : (ps.length + qs.length) * 48 ≤ 140737488355328) (hz : ∀ x ∈ qs, x.tree.length ≤ 281474976710656) :
    Calls Tryz.prog 124 #[.pointer (some ⟨X, 0, none⟩), u] w fun e w' => e = .returned (.tuple #[]) ∧ ∃ v', WrAt w' X B v' (ps ++ qs) ∧ Far X v0 w w' := by
  rcases hA with ⟨rfl, h0⟩ | ⟨h0, b, off, cap, rfl, hc⟩
  · obtain ⟨a, cap, rfl⟩ := empty_arg h0
    refine (add_none w X cap a).mono ?_
    rintro e w' ⟨rfl, rfl⟩
    exact ⟨rfl, v0, by simpa using h, Far.refl _ _ _⟩
  · obtain ⟨h1, h2⟩ := hb b h0 rfl
    exact add_some w X B b off cap qs.length v0 ps qs h hc rfl h1 h2 hn hz
theorem lit_own (w : World) (ps : List Ins) (h0 : 0 < ps.length) : ArgP (w.alloc (.cells (progV ps).toArray 64)) (.slice (some ⟨w.heap.size, 0, none⟩) ps.length ps.length) ps :=
  .inr ⟨h0, _, 0, _, rfl, progAt_of (by simp) fun j u hu => by
    rw [show ((⟨w.heap.size, 0, none⟩ : Addr).add j) = ⟨w.heap.size, j, none⟩ from by unfold Addr.add; split <;> simp_all, World.cell?_alloc_new]
    simpa using hu⟩
/-- what a call that writes one instruction does -/
theorem wr_lit {w : World} {X B : Nat} {v : Value} {ps : List Ins} (h : WrAt w X B v ps) (x : Ins) (hn : (ps.length + 1) * 48 ≤ 140737488355328) (hx : x.tree.length ≤ 281474976710656) :
    Calls Tryz.prog 124 #[.pointer (some ⟨X, 0, none⟩), .slice (some ⟨w.heap.size, 0, none⟩) 1 1] (w.alloc (.cells (progV [x]).toArray 64)) fun e w' => e = .returned (.tuple #[]) ∧ ∃ v', WrAt w' X B v' (ps ++ [x]) ∧ Far X v w w' := by
  have hb := alloc_belowW w (.cells (progV [x]).toArray 64)
  refine (add_arg _ X B v _ ps [x] (h.below hb) (lit_own w [x] (by simp)) (fun b _ hb => ?_) (by simpa using hn) (by simpa using hx)).mono ?_
  · cases hb
    refine ⟨fun e => ?_, fun e => ?_⟩
    · have := h.lt; have := h.le; simp only at e; omega
    · have h9 := (h.away e).2
      simp only at h9; omega
  · rintro e w' ⟨rfl, v', h1, h2⟩
    refine ⟨rfl, v', h1, ⟨h2.os, h2.tape, h2.output, Nat.le_trans hb.size h2.size, fun k hk h3 h4 => ?_⟩⟩
    exact (h2.block k (by simp; omega) h3 h4).trans (hb.block k hk)
/-- the same, after a call that made the instruction -/
theorem wr_lit2 {w0 w : World} {X B : Nat} {v : Value} {ps : List Ins} (hb : Below w0.heap.size w0 w) (h : WrAt w0 X B v ps) (x : Ins) (hn : (ps.length + 1) * 48 ≤ 140737488355328) (hx : x.tree.length ≤ 281474976710656) :
    Calls Tryz.prog 124 #[.pointer (some ⟨X, 0, none⟩), .slice (some ⟨w.heap.size, 0, none⟩) 1 1] (w.alloc (.cells (progV [x]).toArray 64)) fun e w' => e = .returned (.tuple #[]) ∧ ∃ v', WrAt w' X B v' (ps ++ [x]) ∧ Far X v w0 w' := by
  refine (wr_lit (h.below hb) x hn hx).mono ?_
  rintro e w' ⟨rfl, v', h1, h2⟩
  exact ⟨rfl, v', h1, h2.os.trans hb.os, h2.tape.trans hb.tape, h2.output.trans hb.output, Nat.le_trans hb.size h2.size, fun k hk h3 h4 => (h2.block k (Nat.lt_of_lt_of_le hk hb.size) h3 h4).trans (hb.block k hk)⟩
set_option maxHeartbeats 800000 in
set_option maxRecDepth 100000 in
theorem wset_any (w : World) (X B : Nat) (v : Value) (ps : List Ins) (a : Int) (t : List UInt8) (h : WrAt w X B v ps) (hn : (ps.length + 1) * 48 ≤ 140737488355328) (hx : t.length ≤ 281474976710656) :
    Calls Tryz.prog 101 #[.pointer (some ⟨X, 0, none⟩), .int .i64 a, .string (S t)] w fun e w' => e = .returned (.tuple #[]) ∧ ∃ v', WrAt w' X B v' (ps ++ [setI a t]) ∧ Far X v w w' := by
  have H := Lib.hid (fun w1 (hb : Below w.heap.size w w1) => wr_lit2 hb h (setI a t) hn hx)
  clear h hn hx
  go_enter Tryz.func101, Tryz.ntmps101
  go_wp2_with fail
  refine (bset_is _ _ _).mono ?_
  rintro e w1 ⟨rfl, hb⟩
  have HB := Lib.hid hb
  clear hb
  go_wp2_with fail
  refine (H.out _ HB.out).mono ?_
  rintro e w2 ⟨rfl, h1⟩
  have HH := Lib.hid h1
  clear h1
  go_wp2
  go_end0
  exact ⟨rfl, HH.out⟩
set_option maxHeartbeats 800000 in
set_option maxRecDepth 100000 in
theorem wcons_any (w : World) (X B : Nat) (v : Value) (ps : List Ins) (a b c : Int) (h : WrAt w X B v ps) (hn : (ps.length + 1) * 48 ≤ 140737488355328) :
    Calls Tryz.prog 102 #[.pointer (some ⟨X, 0, none⟩), .int .i64 a, .int .i64 b, .int .i64 c] w fun e w' => e = .returned (.tuple #[]) ∧ ∃ v', WrAt w' X B v' (ps ++ [consI a b c]) ∧ Far X v w w' := by
  have H := Lib.hid (fun w1 (hb : Below w.heap.size w w1) => wr_lit2 hb h (consI a b c) hn (by simp [consI]))
  clear h hn
  go_enter Tryz.func102, Tryz.ntmps102
  go_wp2_with fail
  refine (bcons_is _ _ _ _).mono ?_
  rintro e w1 ⟨rfl, hb⟩
  have HB := Lib.hid hb
  clear hb
  go_wp2_with fail
  refine (H.out _ HB.out).mono ?_
  rintro e w2 ⟨rfl, h1⟩
  have HH := Lib.hid h1
  clear h1
  go_wp2
  go_end0
  exact ⟨rfl, HH.out⟩
theorem wr_new (w : World) : WrAt (w.alloc (.cells #[.slice none 0 0] 77)) w.heap.size (w.heap.size + 1) (.slice none 0 0) [] :=
  ⟨heap_alloc_new w _, World.ownsRow_nil _ _ _ _, Nat.lt_succ_self _, by simp⟩
theorem nil_far {X B : Nat} {v : Value} {w w' : World} (h : Far X v w w') (hX : B ≤ X) (hv : ∀ g, v.ownBlock = some g → B < g) (hs : B ≤ w.heap.size) : Below B w w' := h.below hX (fun g hg => Nat.le_of_lt (hv g hg)) hs
set_option maxHeartbeats 800000 in
set_option maxRecDepth 100000 in
theorem supply_any (w : World) (d : List UInt8) (hd : d.length ≤ 281474976710656) :
    Calls Tryz.prog 97 #[.string (S d)] w fun e w' => ∃ v, e = .returned v ∧ w'.ownsRow (w.heap.size + 1) 64 5 v 3 (progV (supplyL d)) ∧ Below w.heap.size w w' := by
  have H1 := Lib.hid (fun W X B v h => wset_any W X B v [] 1 d h (by decide) hd)
  have HW0 := Lib.hid (wr_new w)
  generalize hX : w.heap.size = X at *
  have HB0 : Hid (Below X w (w.alloc (.cells #[.slice none 0 0] 77))) := Lib.hid (by rw [← hX]; exact alloc_belowW _ _)
  have HX := Lib.hid hX
  clear hd hX
  go_enter Tryz.func97, Tryz.ntmps97
  go_wp2_with fail
  rw [HX.out]
  refine (H1.out _ _ _ _ HW0.out).mono ?_
  rintro e w1 ⟨rfl, v1, hw1, hf1⟩
  have HW1 := Lib.hid hw1; have HB1 := Lib.hid (HB0.out.trans (hf1.below (Nat.le_refl _) (fun g hg => by cases hg) (by simp [HX.out])))
  clear hw1 hf1
  go_wp2_with fail
  refine (wcons_any _ X (X + 1) v1 _ 0 1 0 HW1.out (by simp)).mono ?_
  rintro e w2 ⟨rfl, v2, hw2, hf2⟩
  have HW2 := Lib.hid hw2; have HB2 := Lib.hid (HB1.out.trans (hf2.below (Nat.le_refl _) (fun g hg => by have := (HW1.out.own.lt g hg).1; omega) (by have := HB1.out.size; rw [HX.out] at this; exact this)))
  clear hw2 hf2
  go_wp2_with fail
  refine (wset_any _ X (X + 1) v2 _ 1 [48] HW2.out (by simp) (by simp)).mono ?_
  rintro e w3 ⟨rfl, v3, hw3, hf3⟩
  have HB3 := Lib.hid (HB2.out.trans (hf3.below (Nat.le_refl _) (fun g hg => by have := (HW2.out.own.lt g hg).1; omega) (by have := HB2.out.size; rw [HX.out] at this; exact this)))
  have c3 : w3.cell? ⟨X, 0, none⟩ = some v3 := Lib.cell_of_heap hw3.mem 0
  have HO3 := Lib.hid hw3.own
  clear hw3 hf3
  go_wp2_with fail
  go_ret
  exact ⟨_, rfl, HO3.out, HB3.out⟩
end Go.Proofs.YtmhoacnbmbhcjaaGreatDoor

namespace Go.Proofs.YtmhoacnbmbhcjaaGreatDoor
open Go.RowKit Pl

open Classical in
/-- the error that Spec is to return -/
noncomputable def specDue (p : List Ins) (d : List UInt8) : Int := if PValid p ∧ vld d = true then (if FitsP (specL p d) then 0 else 3) else 1
theorem specDue_no {p : List Ins} {d : List UInt8} (h : ¬ PValid p ∨ vld d = false) : specDue p d = 1 := by
  unfold specDue; rw [if_neg]; rintro ⟨h1, h2⟩; rcases h with h | h
  · exact h h1
  · rw [h2] at h; cases h
theorem specDue_yes {p : List Ins} {d : List UInt8} (h1 : PValid p) (h2 : vld d = true) (h3 : FitsP (specL p d)) : specDue p d = 0 := by
  unfold specDue; rw [if_pos ⟨h1, h2⟩, if_pos h3]
theorem specDue_size {p : List Ins} {d : List UInt8} (h1 : PValid p) (h2 : vld d = true) (h3 : ¬ FitsP (specL p d)) : specDue p d = 3 := by
  unfold specDue; rw [if_pos ⟨h1, h2⟩, if_neg h3]
theorem pvalid_tree {ps : List Ins} (hv : PValid ps) {x : Ins} (hx : x ∈ ps) : x.tree.length ≤ 2000000 := by
  obtain ⟨k, hk⟩ := List.getElem?_of_mem hx
  exact right_tree_le (hv.2.2 k x hk)
theorem spec_trees {p : List Ins} {d : List UInt8} (h1 : PValid p) (h2 : vld d = true) : ∀ x ∈ specL p d, x.tree.length ≤ 281474976710656 := by
  have h3 := (vld_iff.1 h2).1
  intro x hx
  unfold specL supplyL at hx
  rcases List.mem_append.1 hx with hx | hx
  · simp only [List.mem_cons, List.not_mem_nil, or_false] at hx
    rcases hx with rfl | rfl | rfl
    · show d.length ≤ _; omega
    · simp [consI]
    · simp [setI]
  · have := pvalid_tree h1 hx; omega
theorem spec_len (p : List Ins) (d : List UInt8) : (specL p d).length = 3 + p.length := by simp [specL, supplyL]; omega
set_option maxHeartbeats 1600000 in
set_option maxRecDepth 100000 in
theorem Spec_no (w : World) (v : Value) (p : List Ins) (d : List UInt8) (h : ArgP w v p) (hl : p.length ≤ 281474976710656) (hz : ∀ x ∈ p, x.tree.length ≤ 281474976710656) (hd : d.length ≤ 281474976710656) (hn : ¬ PValid p ∨ vld d = false) :
    Calls Tryz.prog 45 #[v, .string (S d)] w (BPost w (specDue p d) (specL p d)) := by
  rw [specDue_no hn]
  obtain ⟨r, hr⟩ := pv_bool p
  have HC := Lib.hid (CV_arg w v p r h hl hz hr)
  cases r with
  | false =>
    clear h hl hz hn hr
    go_enter Tryz.func45, Tryz.ntmps45
    go_wp2_with fail
    refine HC.out.mono ?_
    rintro e w1 ⟨rfl, h1⟩
    go_wp2_with fail
    go_ret2
    exact ⟨h1, .inr ⟨by simp, rfl⟩⟩
  | true =>
    have hv : vld d = false := by
      rcases hn with h3 | h3
      · exact absurd (hr.1 rfl) h3
      · exact h3
    have HV := Lib.hid (fun W => Valid_is false (S d) W (by rw [S_size]; exact hd) (by rw [S_list]; exact hv))
    clear h hl hz hn hr hv
    go_enter Tryz.func45, Tryz.ntmps45
    go_wp2_with fail
    refine HC.out.mono ?_
    rintro e w1 ⟨rfl, h1⟩
    go_wp2_with fail
    refine (HV.out _).mono ?_
    rintro e w2 ⟨rfl, h2⟩
    go_wp2_with fail
    go_ret2
    exact ⟨bstep h1 h2, .inr ⟨by simp, rfl⟩⟩
/-- what Spec returns, and the program is its own -/
def BOwn (w : World) (due : Int) (cs : List Ins) (e : Ending) (w' : World) : Prop :=
  Below w.heap.size w w' ∧ ((due = 0 ∧ ∃ v, e = .returned (.tuple #[v, .int .i64 0]) ∧ OwnP w' w.heap.size v cs) ∨ (due ≠ 0 ∧ e = .returned (.tuple #[.slice none 0 0, .int .i64 due])))
theorem BOwn.post {w w' : World} {due : Int} {cs : List Ins} {e : Ending} (h : BOwn w due cs e w') : BPost w due cs e w' := by
  obtain ⟨h1, ⟨h2, v, h3, h4⟩ | h2⟩ := h
  · exact ⟨h1, .inl ⟨h2, v, h3, h4.arg⟩⟩
  · exact ⟨h1, .inr h2⟩
set_option maxHeartbeats 1600000 in
set_option maxRecDepth 100000 in
theorem Spec_own (w : World) (v : Value) (p : List Ins) (d : List UInt8) (h : ArgP w v p) (hp : PValid p) (hd : vld d = true) :
    Calls Tryz.prog 45 #[v, .string (S d)] w (BOwn w (specDue p d) (specL p d)) := by
  have hl := hp.1
  have hd2 := (vld_iff.1 hd).1
  have HC := Lib.hid (CV_arg w v p true h (by omega) (fun x hx => by have := pvalid_tree hp hx; omega) (by simp [hp]))
  have HV := Lib.hid (fun W => Valid_is true (S d) W (by rw [S_size]; omega) (by rw [S_list]; exact hd))
  have HS := Lib.hid (fun W => supply_any W d (by omega))
  have HTR := Lib.hid (spec_trees hp hd)
  have HLEN : Hid ((specL p d).length * 48 ≤ 140737488355328) := Lib.hid (by rw [spec_len]; omega)
  have HAR := Lib.hid h
  have HVAL := Lib.hid (fits_valid (allR_spec hp hd))
  have HD0 := Lib.hid (specDue_yes hp hd); have HD3 := Lib.hid (specDue_size hp hd)
  obtain ⟨va, vc, rfl⟩ := h.form
  clear h hp hd hl hd2
  generalize p.length = q at *
  go_enter Tryz.func45, Tryz.ntmps45
  go_wp2_with fail
  refine HC.out.mono ?_
  rintro e w1 ⟨rfl, h1⟩
  go_wp2_with fail
  refine (HV.out _).mono ?_
  rintro e w2 ⟨rfl, h2⟩
  have HB2 := Lib.hid (bstep h1 h2)
  clear h1 h2
  go_wp2_with fail
  refine (HS.out _).mono ?_
  rintro e w3 ⟨u3, rfl, ho3, h3⟩
  have HB3 := Lib.hid (bstep HB2.out h3)
  have ha3 : ArgP w3 u3 (supplyL d) := (own_prog (ps := supplyL d) ho3).2.1
  have HA3 := Lib.hid ha3
  obtain ⟨a3, c3, rfl⟩ : ∃ a c, u3 = .slice a 3 c := ha3.form
  have HL3 := Lib.hid (lit_pieces w3 [.slice a3 3 c3, .slice va q vc] [supplyL d, p] ⟨HA3.out, HAR.out.below HB3.out, trivial⟩)
  have HB4 := Lib.hid (HB3.out.alloc HB3.out.size (.cells #[.slice a3 3 c3, .slice va q vc] 23))
  have HJ := Lib.hid (join_own _ w3.heap.size 0 2 [supplyL d, p] (specL p d) (by simp [specL]) HL3.out (by simp) HLEN.out HTR.out)
  clear ho3 h3 ha3
  go_wp2_with fail
  refine HJ.out.mono ?_
  rintro e w4 ⟨h4, hJ⟩
  have HB5 := Lib.hid (bstep HB4.out h4)
  have HSZ : Hid (w.heap.size ≤ (w3.alloc (.cells #[.slice a3 3 c3, .slice va q vc] 23)).heap.size) := Lib.hid HB4.out.size
  clear h4
  rcases hJ with ⟨hv, v, rfl, hA⟩ | ⟨hn, rfl⟩
  · have HD : Hid (specDue p d = 0) := Lib.hid (HD0.out (HVAL.out.1 hv))
    have HO : Hid (OwnP w4 w.heap.size v (specL p d)) := Lib.hid (own_lower hA HSZ.out)
    clear hA hv
    go_wp2_with fail
    go_ret2
    rw [HD.out]
    exact ⟨HB5.out, .inl ⟨rfl, _, rfl, HO.out⟩⟩
  · have HD : Hid (specDue p d = 3) := Lib.hid (HD3.out (fun h => hn (HVAL.out.2 h)))
    clear hn
    go_wp2_with fail
    go_ret2
    rw [HD.out]
    exact ⟨HB5.out, .inr ⟨by simp, rfl⟩⟩
theorem Spec_yes (w : World) (v : Value) (p : List Ins) (d : List UInt8) (h : ArgP w v p) (hp : PValid p) (hd : vld d = true) :
    Calls Tryz.prog 45 #[v, .string (S d)] w (BPost w (specDue p d) (specL p d)) :=
  (Spec_own w v p d h hp hd).mono fun _ _ h => h.post
theorem Spec_any (w : World) (v : Value) (p : List Ins) (d : List UInt8) (h : ArgP w v p) (hl : p.length ≤ 281474976710656) (hz : ∀ x ∈ p, x.tree.length ≤ 281474976710656) (hd : d.length ≤ 281474976710656) :
    Calls Tryz.prog 45 #[v, .string (S d)] w (BPost w (specDue p d) (specL p d)) := by
  by_cases hp : PValid p
  · cases hv : vld d with
    | false => exact Spec_no w v p d h hl hz hd (.inr hv)
    | true => exact Spec_yes w v p d h hp hv
  · exact Spec_no w v p d h hl hz hd (.inl hp)
end Go.Proofs.YtmhoacnbmbhcjaaGreatDoor

namespace Go.Proofs.YtmhoacnbmbhcjaaGreatDoor
open Go.RowKit Pl

set_option maxHeartbeats 800000 in
set_option maxRecDepth 100000 in
theorem rhead5_any (w : World) (d : List UInt8) :
    Calls Tryz.prog 90 #[.string (S d)] w fun e w' => ∃ v, e = .returned v ∧ OwnP w' w.heap.size v (supplyL d) ∧ Below w.heap.size w w' := by
  go_enter Tryz.func90, Tryz.ntmps90
  go_wp2_with fail
  go_ret
  exact ⟨_, rfl, World.ownsRow_lit w (progV (supplyL d)).toArray 3 (Nat.le_refl _) (by unfold maxLen; omega) rfl, alloc_belowW _ _⟩
set_option maxHeartbeats 800000 in
set_option maxRecDepth 100000 in
theorem rSpec_any (w : World) (v : Value) (p : List Ins) (d : List UInt8) (h : ArgP w v p) (hl : (3 + p.length) * 48 ≤ 140737488355328) :
    Calls Tryz.prog 119 #[v, .string (S d)] w fun e w' => ∃ v', e = .returned v' ∧ ArgP w' v' (specL p d) ∧ Below w.heap.size w w' := by
  have HA := Lib.hid h; have HL := Lib.hid hl
  obtain ⟨a, c, rfl⟩ := h.form
  clear h hl
  go_enter Tryz.func119, Tryz.ntmps119
  go_wp2_with fail
  refine (rhead5_any w d).mono ?_
  rintro e w1 ⟨v1, rfl, ho1, h1⟩
  have HO := Lib.hid ho1; have HB := Lib.hid h1; have HA1 := Lib.hid (HA.out.below h1)
  clear ho1 h1
  go_wp2_with (at_builtin; refine wpList_app_prog rfl _ _ rfl w.heap.size _ 3 (progV (supplyL d)) rfl HO.out _ rfl p HA1.out HL.out HB.out.size ?_; intro v' w' hown hgrow)
  have HB2 : Hid (Below w.heap.size w w') := Lib.hid (HB.out.grown hgrow HB.out.size (fun g h => (HO.out.lt g h).1))
  have ha : ArgP w' v' (specL p d) := (own_prog (ps := specL p d) (by unfold specL; rw [progV_app]; exact hown)).2.1
  have HR := Lib.hid ha
  clear hown hgrow ha
  go_wp2_with fail
  go_ret
  exact ⟨_, rfl, HR.out, HB2.out⟩
set_option maxHeartbeats 3200000 in
set_option maxRecDepth 100000 in
theorem awake5_any (w : World) : Calls Tryz.prog 41 #[] w fun e w' => e = .returned (.bool true) ∧ Below w.heap.size w w' := by
  have S1 := Lib.hid (fun W v h => Spec_yes W v pHead [49, 48, 48] h pHead_valid vld_100)
  have S2 := Lib.hid (fun W v h => Spec_yes W v [] [49, 48, 48] h pNil_valid vld_100)
  have HD1 := Lib.hid (specDue_yes pHead_valid vld_100 ⟨by decide, by decide⟩)
  have HD2 := Lib.hid (specDue_yes pNil_valid vld_100 ⟨by decide, by decide⟩)
  rw [HD1.out] at S1
  rw [HD2.out] at S2
  have H1 := Lib.hid (fun W v h => Run_yes W v (specL pHead [49, 48, 48]) (S [48]) 10 h spec_valid1 (by decide) (by decide))
  have H2 := Lib.hid (fun W v h => Run_yes W v (specL [] [49, 48, 48]) (S [49, 48, 49, 48, 48]) 10 h spec_valid2 (by decide) (by decide))
  rw [S_list, spec_run1] at H1
  rw [S_list, spec_run2] at H2
  clear HD1 HD2
  go_enter Tryz.func41, Tryz.ntmps41
  go_wp2_with fail
  refine (S1.out _ _ (lit_prog w pHead (by decide))).mono ?_
  rintro e w1 ⟨h1, ⟨_, v1, rfl, ha1⟩ | ⟨h0, _⟩⟩
  · have HA1 := Lib.hid ha1; have HB1 := Lib.hid (bstep (alloc_belowW w _) h1)
    clear ha1 h1
    go_wp2_with fail
    refine (H1.out _ _ HA1.out).mono ?_
    rintro e w2 ⟨rfl, h2⟩
    have HB2 := Lib.hid (bstep HB1.out h2)
    clear h2
    go_wp2_with fail
    refine (S2.out _ _ (.inl ⟨rfl, .inl rfl⟩)).mono ?_
    rintro e w3 ⟨h3, ⟨_, v3, rfl, ha3⟩ | ⟨h0, _⟩⟩
    · have HA3 := Lib.hid ha3; have HB3 := Lib.hid (bstep HB2.out h3)
      clear ha3 h3
      go_wp2_with fail
      refine (H2.out _ _ HA3.out).mono ?_
      rintro e w4 ⟨rfl, h4⟩
      have HB4 := Lib.hid (bstep HB3.out h4)
      clear h4
      go_wp2_with fail
      go_ret
      exact ⟨rfl, HB4.out⟩
    · exact absurd rfl h0
  · exact absurd rfl h0
end Go.Proofs.YtmhoacnbmbhcjaaGreatDoor
