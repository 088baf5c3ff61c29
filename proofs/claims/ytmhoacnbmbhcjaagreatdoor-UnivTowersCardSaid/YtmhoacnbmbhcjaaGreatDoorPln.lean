/- The plan of package univ in memory, and what its methods do. By an AI agent. -/
import Derived.Test.YtmhoacnbmbhcjaaGreatDoorSp5
import Derived.Test.YtmhoacnbmbhcjaaGreatDoorWr
import Derived.Maps.Own
import Derived.Maps.OwnOps
import Derived.StillTailTactics
import Derived.BigRegion
import Derived.Test.YtmhoacnbmbhcjaaGreatDoorShelfC
import Derived.Laws.EntriesVeiled
import Derived.LoopN
import Derived.Test.YtmhoacnbmbhcjaaGreatDoorUnv
namespace Go.Proofs.YtmhoacnbmbhcjaaGreatDoor
open Go.RowKit Go.Maps Pl

/-- a writer that is a plan's first field -/
structure WpAt (m1 m2 : Value) (w : World) (X B : Nat) (v : Value) (ps : List Ins) : Prop where
  mem : w.heap[X]? = some (.cells #[v, m1, m2] 80 (0, 0))
  own : w.ownsRow B 64 5 v ps.length (progV ps)
  lt : X < B
  le : B ≤ w.heap.size
theorem padd_close {w wr w2 w3 : World} {X B k M gg cap1 L : Nat} {m1 m2 v0 v : Value} {ps qs : List Ins} {x : Ins} {ob : Obj} (hL : (ps ++ qs.take k).length = L) (HW : WpAt m1 m2 wr X B v (ps ++ qs.take k)) (hx : qs[k]? = some x) (hM : wr.heap.size = M) (HV : v.ownBlock = v0.ownBlock ∨ ∀ g, v.ownBlock = some g → w.heap.size ≤ g) (HF : Far X v0 w wr) (HB : Below M wr w2)
    (ho : w3.ownsRow B 64 5 (.slice (some ⟨gg, 0, none⟩) (L + 1) cap1) (L + 1) (progV (ps ++ qs.take k) ++ x.cells)) (hg : (w2.drew.alloc ob).grownBy w3 v.ownBlock) (hat : v.ownBlock = some gg ∨ gg = w2.heap.size + 1) :
    WpAt m1 m2 (w3.setCell ⟨X, 0, none⟩ (.slice (some ⟨gg, 0, none⟩) (L + 1) cap1)) X B (.slice (some ⟨gg, 0, none⟩) (L + 1) cap1) (ps ++ qs.take (k + 1)) ∧
    ((Value.slice (some ⟨gg, 0, none⟩) (L + 1) cap1).ownBlock = v0.ownBlock ∨ ∀ g, (Value.slice (some ⟨gg, 0, none⟩) (L + 1) cap1).ownBlock = some g → w.heap.size ≤ g) ∧
    Far X v0 w (w3.setCell ⟨X, 0, none⟩ (.slice (some ⟨gg, 0, none⟩) (L + 1) cap1)) := by
  subst hM
  have hXlt : X < wr.heap.size := (Array.getElem?_eq_some_iff.1 HW.mem).1
  have hs2 := HB.size
  have hs3 := hg.size
  have hs5 : (w2.drew.alloc ob).heap.size = w2.heap.size + 1 := by simp
  rw [hs5] at hs3
  have hne : some X ≠ v.ownBlock := fun e => by have := (HW.own.lt X e.symm).1; have := HW.lt; omega
  have hblk : ∀ k, k < wr.heap.size → some k ≠ v.ownBlock → w3.heap[k]? = wr.heap[k]? := fun j hj hr => by
    rw [hg.block j (by simp; omega) hr, Lib.alloc_old _ _ _ (by simp; omega)]
    exact HB.block j hj
  have hX3 : w3.heap[X]? = some (.cells #[v, m1, m2] 80 (0, 0)) := (hblk X hXlt hne).trans HW.mem
  generalize hnv : Value.slice (some ⟨gg, 0, none⟩) (L + 1) cap1 = nv at *
  have hgb : nv.ownBlock = some gg := by rw [← hnv]; rfl
  have hle := HW.le
  refine ⟨⟨?_, ?_, HW.lt, ?_⟩, ?_, ⟨?_, ?_, ?_, ?_, fun j hj h1 h2 => ?_⟩⟩
  · exact Lib.heap_setCell_same (i := 0) hX3 nv
  · rw [take_one hx, ← List.append_assoc, List.length_append, hL, progV_app, progV_one]
    exact ownsRow_setCell_below ho (a := ⟨X, 0, none⟩) HW.lt nv
  · simp; omega
  · rcases hat with h | h
    · rw [hgb, ← h]; exact HV
    · right; intro g hg'; rw [hgb] at hg'; cases hg'; have := HF.size; omega
  · exact (hg.os.trans HB.os).trans HF.os
  · exact (hg.tape.trans HB.tape).trans HF.tape
  · exact (hg.output.trans HB.output).trans HF.output
  · have := HF.size; simp; omega
  · rw [Below.heap_setCell _ _ _ _ h1]
    refine (hblk j (by have := HF.size; omega) fun e => ?_).trans (HF.block j hj h1 h2)
    rcases HV with h | h
    · exact h2 (e.trans h)
    · have := h j e.symm; omega
set_option maxHeartbeats 1600000 in
set_option maxRecDepth 100000 in
theorem padd_some (w : World) (X B b off cap n : Nat) (m1 m2 v0 : Value) (ps qs : List Ins) (h : WpAt m1 m2 w X B v0 ps) (hc : ProgAt w b off qs) (hq : qs.length = n) (hbX : b ≠ X) (hbv : v0.ownBlock ≠ some b) (hn : (ps.length + n) * 48 ≤ 140737488355328) (hz : ∀ x ∈ qs, x.tree.length ≤ 281474976710656) :
    Calls Tryz.prog 124 #[.pointer (some ⟨X, 0, none⟩), .slice (some ⟨b, off, none⟩) n cap] w fun e w' => e = .returned (.tuple #[]) ∧ ∃ v', WpAt m1 m2 w' X B v' (ps ++ qs) ∧ Far X v0 w w' ∧ (v'.ownBlock = v0.ownBlock ∨ ∀ g, v'.ownBlock = some g → w.heap.size ≤ g) := by
  obtain ⟨i0, hi, hz0, hz1, hz2⟩ := info_parts Tryz.infoIns
  have HC := Lib.hid hc; have HQ := Lib.hid hq; have HBX := Lib.hid hbX; have HBV := Lib.hid hbv; have HZ := Lib.hid hz; have H0 := Lib.hid h
  have hn2 : n ≤ 281474976710656 := by omega
  clear h hc hq hbX hbv hz
  go_enter Tryz.func124, Tryz.ntmps124
  go_wp2
  go_loopw [8] (fun i wr => ∃ (k : Nat) (v : Value), k ≤ n ∧ i = .int .i64 k ∧ Hid (WpAt m1 m2 wr X B v (ps ++ qs.take k)) ∧ Hid (v.ownBlock = v0.ownBlock ∨ ∀ g, v.ownBlock = some g → w.heap.size ≤ g) ∧ Hid (Far X v0 w wr)) (fun i _ => n - (intOf i).toNat)
  case atStart => exact ⟨0, v0, Nat.zero_le _, rfl, Lib.hid (by simpa using H0.out), Lib.hid (.inl rfl), Lib.hid (Far.refl _ _ _)⟩
  case round =>
    obtain ⟨k, v, hk, rfl, HW, HV, HF⟩ := hrel
    by_cases hlt : k < n
    · have hk1 : (k : Int) < (n : Int) := by omega
      obtain ⟨x, hx⟩ := get_at (ps := qs) (k := k) (by rw [HQ.out]; exact hlt)
      obtain ⟨a0, a1, a2, a3, a4⟩ := (HF.out.prog HC.out HBX.out HBV.out).2 k x hx
      have hcl : x.tree.length ≤ 281474976710656 := HZ.out x (List.mem_of_getElem? hx)
      have HX := Lib.hid hx
      have HLEN : Hid (((ps ++ qs.take k).length + 1) * 48 ≤ 140737488355328) := Lib.hid (by rw [List.length_append, List.length_take]; omega)
      generalize hL : (ps ++ qs.take k).length = L at *
      have HL := Lib.hid hL
      clear hL
      obtain ⟨op, a, b1, c, t⟩ := x
      simp only at a0 a1 a2 a3 a4 hcl
      clear hx
      have cX : wr.cell? ⟨X, 0, none⟩ = some v := Lib.cell_of_heap HW.out.mem 0
      have HB0 := Lib.hid (alloc_belowW wr (.cells #[.int .i64 op, .int .i64 a, .int .i64 b1, .int .i64 c, .string (S t)] 64))
      have HM0 := Lib.hid (heap_alloc_new wr (.cells #[.int .i64 op, .int .i64 a, .int .i64 b1, .int .i64 c, .string (S t)] 64))
      go_wp2_with fail
      refine (Clone_any _ _ (by rw [S_size]; exact hcl)).mono ?_
      rintro e w1 ⟨rfl, hb1⟩
      have HB1 := Lib.hid (bstep HB0.out hb1)
      have hm1 : w1.heap[wr.heap.size]? = some (.cells #[.int .i64 op, .int .i64 a, .int .i64 b1, .int .i64 c, .string (S t)] 64 (0, 0)) := (hb1.block wr.heap.size (by simp)).trans HM0.out
      have hX1 : w1.heap[X]? = some (.cells #[v, m1, m2] 80 (0, 0)) := (HB1.out.block X (by have := HW.out.lt; have := HW.out.le; omega)).trans HW.out.mem
      generalize hM : wr.heap.size = M at *
      have HO1 := Lib.hid (own_below' HW.out.own (by rw [hM]; exact HB1.out))
      have HX1 := Lib.hid hX1; have HM1 := Lib.hid hm1
      have HMB : Hid (B ≤ M) := Lib.hid (by rw [← hM]; exact HW.out.le)
      have HM := Lib.hid hM
      have m4 : w1.cell? ⟨M, 4, none⟩ = some (.string (S t)) := Lib.cell_of_heap hm1 4
      have f4 : w1.frozen? ⟨M, 4, none⟩ = false := by simp [World.frozen?, hm1]
      have HMX : Hid (M ≠ X) := Lib.hid (by have := HW.out.lt; have := HMB.out; omega)
      clear hb1 hm1 hX1 hM a0 a1 a2 a3 a4 cX
      go_wp2_with fail
      have hm2 : (w1.setCell ⟨M, 4, none⟩ (.string (S t))).heap[M]? = some (.cells #[.int .i64 op, .int .i64 a, .int .i64 b1, .int .i64 c, .string (S t)] 64 (0, 0)) := by
        have h9 := Lib.heap_setCell_same (i := 4) HM1.out (.string (S t))
        simpa using h9
      have hX2 : (w1.setCell ⟨M, 4, none⟩ (.string (S t))).heap[X]? = some (.cells #[v, m1, m2] 80 (0, 0)) := by
        rw [Below.heap_setCell _ _ _ _ (fun e => HMX.out e.symm)]; exact HX1.out
      have HB2 : Hid (Below M wr (w1.setCell ⟨M, 4, none⟩ (.string (S t)))) := Lib.hid (by
        have h9 := HB1.out
        exact h9.setCell (p := ⟨M, 4, none⟩) (Nat.le_refl M) _)
      have hlt2 : M < (w1.setCell ⟨M, 4, none⟩ (.string (S t))).heap.size := (Array.getElem?_eq_some_iff.1 hm2).1
      clear m4 f4
      generalize w1.setCell ⟨M, 4, none⟩ (.string (S t)) = w2 at *
      have HO2 := Lib.hid (own_below' HW.out.own (by rw [HM.out]; exact HB2.out))
      rw [HL.out] at HO2
      have HM2 := Lib.hid hm2; have HX2 := Lib.hid hX2; have HL2 := Lib.hid hlt2
      have b0 : w2.cell? ⟨M, 0, none⟩ = some (.int .i64 op) := Lib.cell_of_heap hm2 0
      have b2 : w2.cell? ⟨M, 1, none⟩ = some (.int .i64 a) := Lib.cell_of_heap hm2 1
      have b3 : w2.cell? ⟨M, 2, none⟩ = some (.int .i64 b1) := Lib.cell_of_heap hm2 2
      have b4 : w2.cell? ⟨M, 3, none⟩ = some (.int .i64 c) := Lib.cell_of_heap hm2 3
      have b5 : w2.cell? ⟨M, 4, none⟩ = some (.string (S t)) := Lib.cell_of_heap hm2 4
      have cX : w2.cell? ⟨X, 0, none⟩ = some v := Lib.cell_of_heap hX2 0
      have cXa : (w2.alloc (.cells #[.int .i64 op, .int .i64 a, .int .i64 b1, .int .i64 c, .string (S t)] 64)).cell? ⟨X, 0, none⟩ = some v := cell_keep (alloc_belowW _ _) cX
      have fX : w2.frozen? ⟨X, 0, none⟩ = false := by simp [World.frozen?, hX2]
      have HNE : Hid (some X ≠ v.ownBlock) := Lib.hid fun e => by have := (HO2.out.lt X e.symm).1; have := HW.out.lt; omega
      have HXA := Lib.hid cXa
      have HFA : Hid ((w2.drew.alloc (.cells #[.int .i64 op, .int .i64 a, .int .i64 b1, .int .i64 c, .string (S t)] 64)).frozen? ⟨X, 0, none⟩ = false) := Lib.hid (((alloc_belowW w2.drew _).frozen (p := ⟨X, 0, none⟩) (cell_lt cX)).trans fX)
      clear hm2 hX2 hlt2
      go_region_law (refine step_append_lies _ (by rfl) _ _ _ (by rfl) B 64 i0 _ 5 48 Tryz.underlying23 hi hz0 hz1 hz2 rfl (by omega) _ _ _ (by rfl) (HO2.out.drew.alloc _) ⟨w2.heap.size, 0, none⟩ 1 1 [.int .i64 op, .int .i64 a, .int .i64 b1, .int .i64 c, .string (S t)] (by rfl) (by rfl) (World.news_of_block (cs := #[.int .i64 op, .int .i64 a, .int .i64 b1, .int .i64 c, .string (S t)]) (t := 64) (fr := (0, 0)) (heap_alloc_new w2.drew _)) (by simp [Value.oneCell']) (by omega) (by have := HLEN.out; unfold maxLen; omega) (by have := HLEN.out; omega) (by have := HW.out.le; have := HB2.out.size; simp; omega) (w2.heap.size + 1) (by simp) ?_; intro gg cap1 w3 hown3 hgrow3 hat hlt1; have j1 := hgrow3.cell (a := ⟨X, 0, none⟩) HXA.out HNE.out; have j2 := (hgrow3.frozen_far ⟨X, 0, none⟩ (cell_lt HXA.out) HNE.out).trans HFA.out)
      all_goals
        have hfin := Lib.hid (padd_close HL.out HW.out HX.out HM.out HV.out HF.out HB2.out hown3 hgrow3 hat)
        clear j1 j2 hown3 hgrow3 hat hlt1 b0 b2 b3 b4 b5 cX cXa fX
        go_wp2_with fail
        go_roundw
        case rel => exact ⟨k + 1, _, by omega, by go_num, Lib.hid hfin.out.1, Lib.hid hfin.out.2.1, Lib.hid hfin.out.2.2⟩
        case measure => simp [intOf]; omega
    · obtain rfl : k = n := by omega
      have HE : Hid (ps ++ qs.take k = ps ++ qs) := Lib.hid (by rw [List.take_of_length_le (by rw [HQ.out]; exact Nat.le_refl _)])
      rw [HE.out] at HW
      go_wp2_with fail
      go_end0
      exact ⟨rfl, _, HW.out, HF.out, HV.out⟩
theorem Tryz.infoLeap : (Tryz.prog.info? 150).map (fun i => (i.zero, i.size, i.bytes)) = some (some (.agg #[.int .i64 0, .string ⟨#[]⟩]), 2, 24) := by kernel_rfl
theorem strLaw : Keyed Tryz.prog 9 := string_keyed Tryz.underlying9
theorem zeroInt (w : World) : (zeroValue 3).run Tryz.prog w = .ok (.int .i64 0) w := by kernel_rfl
/-- the places, as the map reads: what was put last stands first -/
def placesD (H : Type) (M : List (List UInt8 × Nat)) : DataW H := M.foldr (fun e D => D.put (.string e.1) (.lit (.int .i64 (e.2 : Int)))) (.map [])
def leapV (L : List (Nat × List UInt8)) : List Value := L.flatMap fun e => [.int .i64 (e.1 : Int), .string (S e.2)]
/-- what of memory stays: the boxes of what closures keep -/
def Kept (w w' : World) : Prop := ∀ (k : Nat) (o : Array Value) (ty : TypeId) (fr : Nat × Nat), w.heap[k]? = some (Obj.cells o ty fr) → ty = 82 ∨ ty = 3 → w'.heap[k]? = w.heap[k]?
/-- what a call does to memory: below N nothing, and the boxes stay -/
structure Eff (N : Nat) (w w' : World) : Prop where
  below : Below N w w'
  kept : Kept w w'
theorem Eff.refl (N : Nat) (w : World) : Eff N w w := ⟨Below.refl _ _, fun _ _ _ _ _ _ => rfl⟩
theorem Eff.trans {N : Nat} {a b c : World} (h : Eff N a b) (k : Eff N b c) : Eff N a c :=
  ⟨h.below.trans k.below, fun q o ty fr hq ht => by
    have h1 := h.kept q o ty fr hq ht
    exact (k.kept q o ty fr (h1.trans hq) ht).trans h1⟩
theorem Eff.of_below {N : Nat} {w w' : World} (hN : N ≤ w.heap.size) (h : Below w.heap.size w w') : Eff N w w' :=
  ⟨⟨h.os, h.tape, h.output, h.size, fun k hk => h.block k (by omega)⟩, fun k o ty fr hk _ => h.block k (Array.getElem?_eq_some_iff.1 hk).1⟩
/-- the plan: where it lies, the instructions, the places, the jumps -/
structure PlanAt (w : World) (X : Nat) (v lv : Value) (mb : Nat) (H : Type) (ps : List Ins) (M : List (List UInt8 × Nat)) (L : List (Nat × List UInt8)) : Prop where
  mem : w.heap[X]? = some (.cells #[v, .map (some mb), lv] 80 (0, 0))
  own : w.ownsRow (X + 1) 64 5 v ps.length (progV ps)
  own2 : w.ownsRow (X + 1) 150 2 lv L.length (leapV L)
  map : w.ownsMap (H := H) Tryz.prog 9 (plainElem Tryz.prog 3) mb M.length (placesD H M)
  mlt : mb < X
def PlanIs (w : World) (X mb : Nat) (H : Type) (ps : List Ins) (M : List (List UInt8 × Nat)) (L : List (Nat × List UInt8)) : Prop := ∃ v lv, PlanAt w X v lv mb H ps M L
theorem ownsRow_at {w w' : World} {B n k : Nat} {e : TypeId} {v : Value} {xs : List Value} (h : w.ownsRow B e k v n xs) (hb : ∀ g, v.ownBlock = some g → w'.heap[g]? = w.heap[g]?) : w'.ownsRow B e k v n xs := by
  refine ⟨h.1, ?_⟩
  rcases h.2 with h | ⟨g, cap, cur, rfl, h1, h2, h3⟩
  · exact .inl h
  · exact .inr ⟨g, cap, cur, rfl, h1, (hb g rfl).trans h2, h3⟩
theorem ownsMap_at {H : Type} {w w' : World} {P : Program} {k : TypeId} {R : Value → Option (DataW H × List MemPlace)} {b n : Nat} {D : DataW H} (h : w.ownsMap P k R b n D) (hb : w'.heap[b]? = w.heap[b]?) : w'.ownsMap P k R b n D := by
  obtain ⟨es, clock, h1, h2⟩ := h
  exact ⟨es, clock, hb.trans h1, h2⟩
theorem row_type {w : World} {B n k g : Nat} {e : TypeId} {v : Value} {xs : List Value} (h : w.ownsRow B e k v n xs) (hg : v.ownBlock = some g) : ∃ cur, w.heap[g]? = some (.cells cur e (0, 0)) := by
  rcases h.2 with ⟨rfl, _⟩ | ⟨g', cap, cur, rfl, h1, h2, _⟩
  · cases hg
  · cases hg; exact ⟨cur, h2⟩
theorem PlanAt.later {w w' : World} {X mb : Nat} {v lv : Value} {H : Type} {ps : List Ins} {M : List (List UInt8 × Nat)} {L : List (Nat × List UInt8)} (h : PlanAt w X v lv mb H ps M L) (hb : Below w.heap.size w w') : PlanAt w' X v lv mb H ps M L :=
  ⟨(hb.block X (Array.getElem?_eq_some_iff.1 h.mem).1).trans h.mem, own_below' h.own hb, own_below' h.own2 hb, ownsMap_at h.map (hb.block mb h.map.lt), h.mlt⟩
theorem PlanAt.wr {w : World} {X mb : Nat} {v lv : Value} {H : Type} {ps : List Ins} {M : List (List UInt8 × Nat)} {L : List (Nat × List UInt8)} (h : PlanAt w X v lv mb H ps M L) : WpAt (.map (some mb)) lv w X (X + 1) v ps :=
  ⟨h.mem, h.own, Nat.lt_succ_self _, (Array.getElem?_eq_some_iff.1 h.mem).1⟩
/-- one instruction more -/
theorem PlanAt.wrote {w w' : World} {X mb : Nat} {v v' lv : Value} {H : Type} {ps qs : List Ins} {M : List (List UInt8 × Nat)} {L : List (Nat × List UInt8)} (h : PlanAt w X v lv mb H ps M L) (hw : WpAt (.map (some mb)) lv w' X (X + 1) v' qs) (hf : Far X v w w') : PlanAt w' X v' lv mb H qs M L := by
  refine ⟨hw.mem, hw.own, ownsRow_at h.own2 fun g hg => ?_, ownsMap_at h.map (hf.block mb h.map.lt (by have := h.mlt; omega) fun e => ?_), h.mlt⟩
  · obtain ⟨c1, t1⟩ := row_type h.own2 hg
    have h1 := h.own2.lt g hg
    refine hf.block g h1.2 (by omega) fun e => ?_
    obtain ⟨c2, t2⟩ := row_type h.own e.symm
    rw [t1] at t2
    simp at t2
  · have := (h.own.lt mb e.symm).1; have := h.mlt; omega
theorem PlanAt.eff {w w' : World} {N X mb : Nat} {v lv : Value} {H : Type} {ps : List Ins} {M : List (List UInt8 × Nat)} {L : List (Nat × List UInt8)} (h : PlanAt w X v lv mb H ps M L) (hf : Far X v w w') (hN : N ≤ X) : Eff N w w' := by
  have hX := (Array.getElem?_eq_some_iff.1 h.mem).1
  refine ⟨hf.below hN (fun g hg => by have := (h.own.lt g hg).1; omega) (by omega), fun k o ty fr hk ht => ?_⟩
  refine hf.block k (Array.getElem?_eq_some_iff.1 hk).1 (fun e => ?_) fun e => ?_
  · subst e
    rw [h.mem] at hk
    injection hk with hk
    injection hk with _ hk _
    subst hk
    rcases ht with ht | ht <;> exact absurd ht (by decide)
  · obtain ⟨c2, t2⟩ := row_type h.own e.symm
    rw [t2] at hk
    injection hk with hk
    injection hk with _ hk _
    subst hk
    rcases ht with ht | ht <;> exact absurd ht (by decide)
/-- what a call that writes one instruction does -/
theorem pl_lit {w0 w : World} {N X mb : Nat} {H : Type} {ps : List Ins} {M : List (List UInt8 × Nat)} {L : List (Nat × List UInt8)} (hb : Below w0.heap.size w0 w) (h : PlanIs w0 X mb H ps M L) (hN : N ≤ X) (x : Ins) (hn : ps.length ≤ 1000000) (hx : x.tree.length ≤ 281474976710656) :
    Calls Tryz.prog 124 #[.pointer (some ⟨X, 0, none⟩), .slice (some ⟨w.heap.size, 0, none⟩) 1 1] (w.alloc (.cells (progV [x]).toArray 64)) fun e w' => e = .returned (.tuple #[]) ∧ PlanIs w' X mb H (ps ++ [x]) M L ∧ Eff N w0 w' := by
  obtain ⟨v, lv, h⟩ := h
  have ha := alloc_belowW w (.cells (progV [x]).toArray 64)
  have h1 := h.later (bstep hb ha)
  have hX := (Array.getElem?_eq_some_iff.1 h.mem).1
  have hs := hb.size
  obtain ⟨_, b, off, cap, e, hc⟩ : 0 < [x].length ∧ ∃ b off cap, (.slice (some ⟨w.heap.size, 0, none⟩) 1 1 : Value) = .slice (some ⟨b, off, none⟩) [x].length cap ∧ ProgAt (w.alloc (.cells (progV [x]).toArray 64)) b off [x] := by
    rcases lit_own w [x] (by simp) with ⟨h9, _⟩ | h9
    · cases h9
    · exact h9
  injection e with e1 e2 e3
  injection e1 with e1
  injection e1 with e1 e4 _
  subst e1; subst e4; subst e3
  refine (padd_some _ X (X + 1) w.heap.size 0 1 1 (.map (some mb)) lv v ps [x] h1.wr hc rfl (by omega) (fun e => ?_) (by omega) (by simpa using hx)).mono ?_
  · have := (h.own.lt _ e).2; omega
  · rintro e w' ⟨rfl, v', h2, h3, _⟩
    exact ⟨rfl, ⟨v', lv, h1.wrote h2 h3⟩, (Eff.of_below (by omega) (bstep hb ha)).trans (h1.eff h3 hN)⟩
set_option maxHeartbeats 800000 in
set_option maxRecDepth 100000 in
theorem pset_any (w : World) (N X mb : Nat) (H : Type) (ps : List Ins) (M : List (List UInt8 × Nat)) (L : List (Nat × List UInt8)) (a : Int) (t : List UInt8) (h : PlanIs w X mb H ps M L) (hN : N ≤ X) (hn : ps.length ≤ 1000000) (hx : t.length ≤ 281474976710656) :
    Calls Tryz.prog 101 #[.pointer (some ⟨X, 0, none⟩), .int .i64 a, .string (S t)] w fun e w' => e = .returned (.tuple #[]) ∧ PlanIs w' X mb H (ps ++ [setI a t]) M L ∧ Eff N w w' := by
  have HH := Lib.hid (fun w1 (hb : Below w.heap.size w w1) => pl_lit hb h hN (setI a t) hn hx)
  clear h hn hN hx
  go_enter Tryz.func101, Tryz.ntmps101
  go_wp2_with fail
  refine (bset_is _ _ _).mono ?_
  rintro e w1 ⟨rfl, hb⟩
  have HB := Lib.hid hb
  clear hb
  go_wp2_with fail
  refine (HH.out _ HB.out).mono ?_
  rintro e w2 ⟨rfl, h1⟩
  have H1 := Lib.hid h1
  clear h1
  go_wp2
  go_end0
  exact ⟨rfl, H1.out⟩
set_option maxHeartbeats 800000 in
set_option maxRecDepth 100000 in
theorem pcons_any (w : World) (N X mb : Nat) (H : Type) (ps : List Ins) (M : List (List UInt8 × Nat)) (L : List (Nat × List UInt8)) (a b c : Int) (h : PlanIs w X mb H ps M L) (hN : N ≤ X) (hn : ps.length ≤ 1000000) :
    Calls Tryz.prog 102 #[.pointer (some ⟨X, 0, none⟩), .int .i64 a, .int .i64 b, .int .i64 c] w fun e w' => e = .returned (.tuple #[]) ∧ PlanIs w' X mb H (ps ++ [consI a b c]) M L ∧ Eff N w w' := by
  have HH := Lib.hid (fun w1 (hb : Below w.heap.size w w1) => pl_lit hb h hN (consI a b c) hn (by simp [consI]))
  clear h hn hN
  go_enter Tryz.func102, Tryz.ntmps102
  go_wp2_with fail
  refine (bcons_is _ _ _ _).mono ?_
  rintro e w1 ⟨rfl, hb⟩
  have HB := Lib.hid hb
  clear hb
  go_wp2_with fail
  refine (HH.out _ HB.out).mono ?_
  rintro e w2 ⟨rfl, h1⟩
  have H1 := Lib.hid h1
  clear h1
  go_wp2
  go_end0
  exact ⟨rfl, H1.out⟩
set_option maxHeartbeats 800000 in
set_option maxRecDepth 100000 in
theorem phead_any (w : World) (N X mb : Nat) (H : Type) (ps : List Ins) (M : List (List UInt8 × Nat)) (L : List (Nat × List UInt8)) (a b : Int) (h : PlanIs w X mb H ps M L) (hN : N ≤ X) (hn : ps.length ≤ 1000000) :
    Calls Tryz.prog 103 #[.pointer (some ⟨X, 0, none⟩), .int .i64 a, .int .i64 b] w fun e w' => e = .returned (.tuple #[]) ∧ PlanIs w' X mb H (ps ++ [headI a b]) M L ∧ Eff N w w' := by
  have HH := Lib.hid (fun w1 (hb : Below w.heap.size w w1) => pl_lit hb h hN (headI a b) hn (by simp [headI]))
  clear h hn hN
  go_enter Tryz.func103, Tryz.ntmps103
  go_wp2_with fail
  refine (bhead_is _ _ _).mono ?_
  rintro e w1 ⟨rfl, hb⟩
  have HB := Lib.hid hb
  clear hb
  go_wp2_with fail
  refine (HH.out _ HB.out).mono ?_
  rintro e w2 ⟨rfl, h1⟩
  have H1 := Lib.hid h1
  clear h1
  go_wp2
  go_end0
  exact ⟨rfl, H1.out⟩
set_option maxHeartbeats 800000 in
set_option maxRecDepth 100000 in
theorem ptail_any (w : World) (N X mb : Nat) (H : Type) (ps : List Ins) (M : List (List UInt8 × Nat)) (L : List (Nat × List UInt8)) (a b : Int) (h : PlanIs w X mb H ps M L) (hN : N ≤ X) (hn : ps.length ≤ 1000000) :
    Calls Tryz.prog 104 #[.pointer (some ⟨X, 0, none⟩), .int .i64 a, .int .i64 b] w fun e w' => e = .returned (.tuple #[]) ∧ PlanIs w' X mb H (ps ++ [tailI a b]) M L ∧ Eff N w w' := by
  have HH := Lib.hid (fun w1 (hb : Below w.heap.size w w1) => pl_lit hb h hN (tailI a b) hn (by simp [tailI]))
  clear h hn hN
  go_enter Tryz.func104, Tryz.ntmps104
  go_wp2_with fail
  refine (btail_is _ _ _).mono ?_
  rintro e w1 ⟨rfl, hb⟩
  have HB := Lib.hid hb
  clear hb
  go_wp2_with fail
  refine (HH.out _ HB.out).mono ?_
  rintro e w2 ⟨rfl, h1⟩
  have H1 := Lib.hid h1
  clear h1
  go_wp2
  go_end0
  exact ⟨rfl, H1.out⟩
set_option maxHeartbeats 800000 in
set_option maxRecDepth 100000 in
theorem pmove_any (w : World) (N X mb : Nat) (H : Type) (ps : List Ins) (M : List (List UInt8 × Nat)) (L : List (Nat × List UInt8)) (a b : Int) (h : PlanIs w X mb H ps M L) (hN : N ≤ X) (hn : ps.length ≤ 1000000) :
    Calls Tryz.prog 173 #[.pointer (some ⟨X, 0, none⟩), .int .i64 a, .int .i64 b] w fun e w' => e = .returned (.tuple #[]) ∧ PlanIs w' X mb H (ps ++ [moveI a b]) M L ∧ Eff N w w' := by
  have HH := Lib.hid (fun w1 (hb : Below w.heap.size w w1) => pl_lit hb h hN (moveI a b) hn (by simp [moveI]))
  clear h hn hN
  go_enter Tryz.func173, Tryz.ntmps173
  go_wp2_with fail
  refine (bmove_is _ _ _).mono ?_
  rintro e w1 ⟨rfl, hb⟩
  have HB := Lib.hid hb
  clear hb
  go_wp2_with fail
  refine (HH.out _ HB.out).mono ?_
  rintro e w2 ⟨rfl, h1⟩
  have H1 := Lib.hid h1
  clear h1
  go_wp2
  go_end0
  exact ⟨rfl, H1.out⟩
set_option maxHeartbeats 800000 in
set_option maxRecDepth 100000 in
theorem pjump_any (w : World) (N X mb : Nat) (H : Type) (ps : List Ins) (M : List (List UInt8 × Nat)) (L : List (Nat × List UInt8)) (a b : Int) (h : PlanIs w X mb H ps M L) (hN : N ≤ X) (hn : ps.length ≤ 1000000) :
    Calls Tryz.prog 171 #[.pointer (some ⟨X, 0, none⟩), .int .i64 a, .int .i64 b] w fun e w' => e = .returned (.tuple #[]) ∧ PlanIs w' X mb H (ps ++ [jumpI a b]) M L ∧ Eff N w w' := by
  have HH := Lib.hid (fun w1 (hb : Below w.heap.size w w1) => pl_lit hb h hN (jumpI a b) hn (by simp [jumpI]))
  clear h hn hN
  go_enter Tryz.func171, Tryz.ntmps171
  go_wp2_with fail
  refine (bjump_is _ _ _).mono ?_
  rintro e w1 ⟨rfl, hb⟩
  have HB := Lib.hid hb
  clear hb
  go_wp2_with fail
  refine (HH.out _ HB.out).mono ?_
  rintro e w2 ⟨rfl, h1⟩
  have H1 := Lib.hid h1
  clear h1
  go_wp2
  go_end0
  exact ⟨rfl, H1.out⟩
end Go.Proofs.YtmhoacnbmbhcjaaGreatDoor

namespace Go.Proofs.YtmhoacnbmbhcjaaGreatDoor
open Go.RowKit Go.Maps Pl

theorem placesD_cons (H : Type) (n : List UInt8) (k : Nat) (M : List (List UInt8 × Nat)) : placesD H ((n, k) :: M) = (placesD H M).put (.string n) (.lit (.int .i64 (k : Int))) := rfl
theorem PlanAt.placed {w w' : World} {X mb : Nat} {v lv : Value} {H : Type} {ps : List Ins} {M M' : List (List UInt8 × Nat)} {L : List (Nat × List UInt8)} (h : PlanAt w X v lv mb H ps M L) (hm : w'.ownsMap (H := H) Tryz.prog 9 (plainElem Tryz.prog 3) mb M'.length (placesD H M')) (hg : w.grownBy w' (some mb)) : PlanAt w' X v lv mb H ps M' L := by
  have hX := (Array.getElem?_eq_some_iff.1 h.mem).1
  have hlt := h.mlt
  refine ⟨(hg.block X hX (by intro e; injection e with e; omega)).trans h.mem, h.own.kept hg (.inr fun e => ?_), h.own2.kept hg (.inr fun e => ?_), hm, h.mlt⟩
  · have := (h.own.lt mb e).1; omega
  · have := (h.own2.lt mb e).1; omega
theorem map_eff {w w' : World} {N mb : Nat} {es : Array _} {cl : Nat} (hm : w.heap[mb]? = some (.map es cl)) (hg : w.grownBy w' (some mb)) (hN : N ≤ mb) : Eff N w w' := by
  have hX := (Array.getElem?_eq_some_iff.1 hm).1
  refine ⟨⟨hg.os, hg.tape, hg.output, hg.size, fun k hk => hg.block k (by omega) (by intro e; injection e with e; omega)⟩, fun k o ty fr hk _ => hg.block k (Array.getElem?_eq_some_iff.1 hk).1 (by intro e; injection e with e; subst e; rw [hm] at hk; injection hk with hk; cases hk)⟩
set_option maxHeartbeats 1600000 in
set_option maxRecDepth 100000 in
theorem place_any (w : World) (N X mb : Nat) (H : Type) (ps : List Ins) (M : List (List UInt8 × Nat)) (L : List (Nat × List UInt8)) (n : List UInt8) (h : PlanIs w X mb H ps M L) (hN : N ≤ mb) (hn : ps.length ≤ 1000000) (hM : M.length ≤ 1000000) (hs : n.length ≤ 1000000) :
    Calls Tryz.prog 126 #[.pointer (some ⟨X, 0, none⟩), .string (S n)] w fun e w' => e = .returned (.tuple #[]) ∧ PlanIs w' X mb H ps ((n, ps.length) :: M) L ∧ Eff N w w' := by
  obtain ⟨v, lv, h⟩ := h
  obtain ⟨A, c, rfl⟩ : ∃ A c, v = .slice A ps.length c := by
    rcases h.own.2 with ⟨rfl, h0⟩ | ⟨g, cap, cur, rfl, _⟩
    · exact ⟨none, 0, by rw [h0]⟩
    · exact ⟨_, _, rfl⟩
  have c0 : w.cell? ⟨X, 0, none⟩ = some (.slice A ps.length c) := Lib.cell_of_heap h.mem 0
  have c1 : w.cell? ⟨X, 1, none⟩ = some (.map (some mb)) := Lib.cell_of_heap h.mem 1
  obtain ⟨w1, hrun, hown, hgrow⟩ := h.map.drew.update strLaw Tryz.underlying75 (by unfold maxLen; omega) (key := .string (S n)) (val := .int .i64 (ps.length : Int)) (kl := .string n) (by have hk := Go.WideMaps.keyOf_string_mk (P := Tryz.prog) Tryz.underlying9 (s := S n) (by rw [S_size]; unfold maxLen; omega); rw [S_list] at hk; exact hk) (plainElem_int Tryz.underlying3 (WalkArith.wf_i64 (by omega)))
  have HP := Lib.hid h; have HO := Lib.hid hown; have HG := Lib.hid hgrow
  clear h hown hgrow hn hM hs
  generalize ps.length = k at *
  go_enter Tryz.func126, Tryz.ntmps126
  go_still_tail 11, (by kernel_rfl)
  change wpList _ _ _ _ _ w.drew
  go_wp2
  go_end0
  obtain ⟨es, cl, hmb, _⟩ := HP.out.map
  have hg : w.grownBy w1 (some mb) := ⟨HG.out.os, HG.out.tape, HG.out.output, HG.out.size, HG.out.block⟩
  exact ⟨rfl, ⟨_, _, HP.out.placed (w := w) (M' := (n, k) :: M) HO.out hg⟩, map_eff (w := w) hmb hg hN⟩
theorem leapV_app (L : List (Nat × List UInt8)) (k : Nat) (n : List UInt8) : leapV (L ++ [(k, n)]) = leapV L ++ [.int .i64 (k : Int), .string (S n)] := by simp [leapV]
theorem leapV_len (L : List (Nat × List UInt8)) : (leapV L).length = L.length * 2 := by
  induction L with
  | nil => rfl
  | cons a L ih => simp only [leapV, List.flatMap_cons, List.length_append, List.length_cons, List.length_nil] at ih ⊢; omega
theorem PlanAt.leapt {w w3 : World} {N X mb gg cap1 k : Nat} {v lv : Value} {H : Type} {ps : List Ins} {M : List (List UInt8 × Nat)} {L : List (Nat × List UInt8)} {n : List UInt8} {ob : Obj} (h : PlanAt w X v lv mb H ps M L) (hN : N ≤ X)
    (ho : w3.ownsRow (X + 1) 150 2 (.slice (some ⟨gg, 0, none⟩) (L.length + 1) cap1) (L.length + 1) (leapV L ++ [.int .i64 (k : Int), .string (S n)])) (hg : (w.drew.alloc ob).grownBy w3 lv.ownBlock) :
    PlanAt (w3.setCell ⟨X, 2, none⟩ (.slice (some ⟨gg, 0, none⟩) (L.length + 1) cap1)) X v (.slice (some ⟨gg, 0, none⟩) (L.length + 1) cap1) mb H ps M (L ++ [(k, n)]) ∧ Eff N w (w3.setCell ⟨X, 2, none⟩ (.slice (some ⟨gg, 0, none⟩) (L.length + 1) cap1)) := by
  have hX := (Array.getElem?_eq_some_iff.1 h.mem).1
  have hs3 := hg.size
  have hs5 : (w.drew.alloc ob).heap.size = w.heap.size + 1 := by simp
  rw [hs5] at hs3
  have hlow : ∀ g, lv.ownBlock = some g → X + 1 ≤ g := fun g hg' => (h.own2.lt g hg').1
  have hblk : ∀ k, k < w.heap.size → some k ≠ lv.ownBlock → w3.heap[k]? = w.heap[k]? := fun j hj hr => by
    rw [hg.block j (by simp; omega) hr, Lib.alloc_old _ _ _ (by simp; omega)]; rfl
  have hXn : some X ≠ lv.ownBlock := fun e => by have := hlow X e.symm; omega
  have hX3 : w3.heap[X]? = some (.cells #[v, .map (some mb), lv] 80 (0, 0)) := (hblk X hX hXn).trans h.mem
  generalize hnv : Value.slice (some ⟨gg, 0, none⟩) (L.length + 1) cap1 = nv at *
  have hset : ∀ k, k < w.heap.size → some k ≠ lv.ownBlock → k ≠ X → (w3.setCell ⟨X, 2, none⟩ nv).heap[k]? = w.heap[k]? := fun j hj h1 h2 => by
    rw [Below.heap_setCell _ _ _ _ h2]; exact hblk j hj h1
  refine ⟨⟨Lib.heap_setCell_same (i := 2) hX3 nv, ownsRow_at h.own fun g hg' => ?_, ?_, ownsMap_at h.map (hset mb h.map.lt (fun e => ?_) (by have := h.mlt; omega)), h.mlt⟩, ⟨⟨hg.os, hg.tape, hg.output, ?_, fun j hj => hset j (by omega) (fun e => ?_) (by omega)⟩, fun j o ty fr hj ht => hset j (Array.getElem?_eq_some_iff.1 hj).1 (fun e => ?_) fun e => ?_⟩⟩
  · obtain ⟨c1, t1⟩ := row_type h.own hg'
    have h1 := h.own.lt g hg'
    refine hset g h1.2 (fun e => ?_) (by omega)
    obtain ⟨c2, t2⟩ := row_type h.own2 e.symm
    rw [t1] at t2
    simp at t2
  · rw [leapV_app, List.length_append]
    exact ownsRow_setCell_below ho (a := ⟨X, 2, none⟩) (Nat.lt_succ_self _) nv
  · have := hlow mb e.symm; have := h.mlt; omega
  · simp; omega
  · have := hlow j e.symm; omega
  · obtain ⟨c2, t2⟩ := row_type h.own2 e.symm
    rw [t2] at hj
    injection hj with hj
    injection hj with _ hj _
    subst hj
    rcases ht with ht | ht <;> exact absurd ht (by decide)
  · subst e
    rw [h.mem] at hj
    injection hj with hj
    injection hj with _ hj _
    subst hj
    rcases ht with ht | ht <;> exact absurd ht (by decide)
set_option maxHeartbeats 1600000 in
set_option maxRecDepth 100000 in
theorem jumpTo_any (w : World) (N X mb : Nat) (H : Type) (ps : List Ins) (M : List (List UInt8 × Nat)) (L : List (Nat × List UInt8)) (n : List UInt8) (a : Int) (h : PlanIs w X mb H ps M L) (hN : N ≤ X) (hn : ps.length ≤ 999999) (hL : L.length ≤ 999999) :
    Calls Tryz.prog 125 #[.pointer (some ⟨X, 0, none⟩), .string (S n), .int .i64 a] w fun e w' => e = .returned (.tuple #[]) ∧ PlanIs w' X mb H (ps ++ [jumpI a 0]) M (L ++ [(ps.length, n)]) ∧ Eff N w w' := by
  obtain ⟨i0, hi, hz0, hz1, hz2⟩ := info_parts Tryz.infoLeap
  obtain ⟨v, lv, h⟩ := h
  obtain ⟨A, c, rfl⟩ : ∃ A c, v = .slice A ps.length c := by
    rcases h.own.2 with ⟨rfl, h0⟩ | ⟨g, cap, cur, rfl, _⟩
    · exact ⟨none, 0, by rw [h0]⟩
    · exact ⟨_, _, rfl⟩
  have hXs := (Array.getElem?_eq_some_iff.1 h.mem).1
  have c0 : w.cell? ⟨X, 0, none⟩ = some (.slice A ps.length c) := Lib.cell_of_heap h.mem 0
  have c2 : w.cell? ⟨X, 2, none⟩ = some lv := Lib.cell_of_heap h.mem 2
  have f2 : w.frozen? ⟨X, 2, none⟩ = false := Lib.frozen_of_heap h.mem 2
  have HP := Lib.hid h; have HO2 := Lib.hid h.own2
  have HLP : Hid (∀ w3 gg cap1 ob, w3.ownsRow (X + 1) 150 2 (.slice (some ⟨gg, 0, none⟩) (L.length + 1) cap1) (L.length + 1) (leapV L ++ [.int .i64 (ps.length : Int), .string (S n)]) → (w.drew.alloc ob).grownBy w3 lv.ownBlock → PlanAt (w3.setCell ⟨X, 2, none⟩ (.slice (some ⟨gg, 0, none⟩) (L.length + 1) cap1)) X (.slice A ps.length c) (.slice (some ⟨gg, 0, none⟩) (L.length + 1) cap1) mb H ps M (L ++ [(ps.length, n)]) ∧ Eff N w (w3.setCell ⟨X, 2, none⟩ (.slice (some ⟨gg, 0, none⟩) (L.length + 1) cap1))) := Lib.hid fun w3 gg cap1 ob h1 h2 => h.leapt hN h1 h2
  have HPJ := Lib.hid (fun W L' (h : PlanIs W X mb H ps M L') => pjump_any W N X mb H ps M L' a 0 h hN (by omega))
  have HNE : Hid (some X ≠ lv.ownBlock) := Lib.hid fun e => by have := (h.own2.lt X e.symm).1; omega
  clear h
  generalize ps.length = k at *
  generalize L.length = m at *
  have c0a : (w.alloc (.cells #[.int .i64 (k : Int), .string (S n)] 150)).cell? ⟨X, 0, none⟩ = some (.slice A k c) := cell_keep (alloc_belowW _ _) c0
  have c2a : (w.alloc (.cells #[.int .i64 (k : Int), .string (S n)] 150)).cell? ⟨X, 2, none⟩ = some lv := cell_keep (alloc_belowW _ _) c2
  have HXA := Lib.hid c2a
  have HFA : Hid ((w.drew.alloc (.cells #[.int .i64 (k : Int), .string (S n)] 150)).frozen? ⟨X, 2, none⟩ = false) := Lib.hid (((alloc_belowW w.drew _).frozen (p := ⟨X, 2, none⟩) (cell_lt c2)).trans f2)
  go_enter Tryz.func125, Tryz.ntmps125
  go_wp2_with fail
  go_region_law (refine step_append_lies _ (by rfl) _ _ _ (by rfl) (X + 1) 150 i0 _ 2 24 Tryz.underlying78 hi hz0 hz1 hz2 rfl (by omega) _ _ _ (by rfl) (HO2.out.drew.alloc _) ⟨w.heap.size, 0, none⟩ 1 1 [.int .i64 (k : Int), .string (S n)] (by rfl) (by rfl) (World.news_of_block (cs := #[.int .i64 (k : Int), .string (S n)]) (t := 150) (fr := (0, 0)) (heap_alloc_new w.drew _)) (by simp [Value.oneCell']) (by omega) (by unfold maxLen; omega) (by omega) (by simp; omega) (w.heap.size + 1) (by simp) ?_; intro gg cap1 w3 hown3 hgrow3 hat hlt1; have j1 := hgrow3.cell (a := ⟨X, 2, none⟩) HXA.out HNE.out; have j2 := (hgrow3.frozen_far ⟨X, 2, none⟩ (cell_lt HXA.out) HNE.out).trans HFA.out)
  all_goals
    have hfin := Lib.hid (HLP.out _ _ _ _ hown3 hgrow3)
    clear j1 j2 hown3 hgrow3 hat hlt1 c0 c2 f2 c0a c2a
    go_wp2_with fail
    refine (HPJ.out _ _ ⟨_, _, hfin.out.1⟩).mono ?_
    rintro e w4 ⟨rfl, h1, h2⟩
    have H1 := Lib.hid h1; have H2 := Lib.hid (hfin.out.2.trans h2)
    clear h1 h2
    go_wp2
    go_end0
    exact ⟨rfl, H1.out, H2.out⟩
end Go.Proofs.YtmhoacnbmbhcjaaGreatDoor

namespace Go.Proofs.YtmhoacnbmbhcjaaGreatDoor
open Go.RowKit Go.Maps Pl

/-- the library's table that Itoa looks into -/
def TabE (w : World) : Prop := Lib.TabIs Tryz.prog w "internal/strconv.uint64pow10" .u64 Lib.pow10Tab
theorem TabE.below {w w' : World} (h : TabE w) (hb : Below w.heap.size w w') : TabE w' := by
  unfold TabE Lib.TabIs World.var? at *
  cases hg : Tryz.prog.globalNamed "internal/strconv.uint64pow10" with
  | none => rw [hg] at h; cases h
  | some g =>
    rw [hg] at h
    simp only [Option.bind_some] at h ⊢
    have hlt : g < w.heap.size := by
      rcases Nat.lt_or_ge g w.heap.size with h1 | h1
      · exact h1
      · rw [Array.getElem?_eq_none h1] at h; cases h
    rw [hb.block g hlt]; exact h
/-- a number below 1000, in decimal -/
def dg3 (k : Nat) : List UInt8 :=
  if k < 10 then [UInt8.ofNat (48 + k)] else if k < 100 then [UInt8.ofNat (48 + k / 10), UInt8.ofNat (48 + k % 10)] else [UInt8.ofNat (48 + k / 10 / 10), UInt8.ofNat (48 + k / 10 % 10), UInt8.ofNat (48 + k % 10)]
theorem dg3_len (k : Nat) : (dg3 k).length ≤ 3 := by
  unfold dg3; split
  · simp
  · split <;> simp
theorem itoa_dg3 {k : Nat} (h : k < 1000) : Lib.itoa (k : Int) = dg3 k := by
  unfold Lib.itoa dg3
  rw [if_neg (by omega), Int.toNat_natCast, Lib.decDigits]
  by_cases h1 : k < 10
  · rw [dif_pos h1, if_pos h1]
  · rw [dif_neg h1, if_neg h1, Lib.decDigits]
    by_cases h2 : k < 100
    · rw [dif_pos (by omega), if_pos h2]; rfl
    · rw [dif_neg (by omega), if_neg h2, Lib.decDigits, dif_pos (by omega)]; rfl
theorem tab_grow (w : World) (k : Nat) (os : Array Obj) : Below w.heap.size w (Go.Sort.grow (w.drewN k) os) :=
  ⟨rfl, rfl, rfl, by simp [Go.Sort.grow], fun j hj => by show (w.heap ++ os)[j]? = _; rw [Array.getElem?_append_left hj]⟩
theorem itoa_p (n : Nat) (w : World) (hn : n < 1000) (hE : TabE w) : Calls Tryz.prog 128 #[.int .i64 (n : Int)] w fun e w' => e = .returned (.string (S (dg3 n))) ∧ Below w.heap.size w w' :=
  (Tryz.strconv_Itoa (n : Int) (by omega) (by omega) w hE).mono fun e w' h => by
    obtain ⟨he, k, os, rfl⟩ := h
    rw [itoa_dg3 hn] at he
    exact ⟨he, tab_grow w k os⟩
/-- a plan, as plain lists: the instructions, the places (the last one first), the jumps -/
structure Pl3 where
  ps : List Ins
  M : List (List UInt8 × Nat)
  L : List (Nat × List UInt8)
namespace Pl3
def wr (s : Pl3) (x : Ins) : Pl3 := ⟨s.ps ++ [x], s.M, s.L⟩
def place (s : Pl3) (n : List UInt8) : Pl3 := ⟨s.ps, (n, s.ps.length) :: s.M, s.L⟩
def jumpTo (s : Pl3) (n : List UInt8) (a : Int) : Pl3 := ⟨s.ps ++ [jumpI a 0], s.M, s.L ++ [(s.ps.length, n)]⟩
def aN (k : Nat) : List UInt8 := [97, 103, 97, 105, 110, 32] ++ dg3 k
def tN (k : Nat) : List UInt8 := [116, 101, 115, 116, 32] ++ dg3 k
def rep (s : Pl3) (a : Int) (body : Pl3 → Pl3) : Pl3 :=
  ((body ((s.jumpTo (tN s.ps.length) 10).place (aN s.ps.length))).place (tN s.ps.length)).jumpTo (aN s.ps.length) a
def shift (s : Pl3) (t f : Int) : Pl3 := ((s.wr (headI 2 f)).wr (consI t 2 t)).wr (tailI f f)
def read (s : Pl3) (a i : Int) : Pl3 := ((s.wr (moveI a 0)).rep i fun s => (s.wr (tailI a a)).wr (tailI i i)).wr (headI a a)
end Pl3
def Ok (n : Nat) (s : Pl3) : Prop := s.ps.length ≤ n ∧ s.M.length ≤ n ∧ s.L.length ≤ n
theorem Ok.wr {n : Nat} {s : Pl3} (h : Ok n s) (x : Ins) : Ok (n + 1) (s.wr x) := ⟨by simp [Pl3.wr]; exact h.1, by have := h.2.1; simp [Pl3.wr]; omega, by have := h.2.2; simp [Pl3.wr]; omega⟩
theorem Ok.place {n : Nat} {s : Pl3} (h : Ok n s) (x : List UInt8) : Ok (n + 1) (s.place x) := ⟨by have := h.1; simp [Pl3.place]; omega, by simp [Pl3.place]; exact h.2.1, by have := h.2.2; simp [Pl3.place]; omega⟩
theorem Ok.jumpTo {n : Nat} {s : Pl3} (h : Ok n s) (x : List UInt8) (a : Int) : Ok (n + 1) (s.jumpTo x a) := ⟨by simp [Pl3.jumpTo]; exact h.1, by have := h.2.1; simp [Pl3.jumpTo]; omega, by simp [Pl3.jumpTo]; exact h.2.2⟩
theorem Ok.mono {m n : Nat} {s : Pl3} (h : Ok m s) (hn : m ≤ n) : Ok n s := ⟨by have := h.1; omega, by have := h.2.1; omega, by have := h.2.2; omega⟩
/-- the plan in memory, in a world that came out of w0 -/
structure PlanS (w0 w : World) (X mb : Nat) (H : Type) (s : Pl3) : Prop where
  plan : PlanIs w X mb H s.ps s.M s.L
  base : Below w0.heap.size w0 w
  low : w0.heap.size ≤ mb
  tab : TabE w0
theorem PlanS.lowX {w0 w : World} {X mb : Nat} {H : Type} {s : Pl3} (h : PlanS w0 w X mb H s) : w0.heap.size ≤ X := by
  obtain ⟨v, lv, hp⟩ := h.plan
  have := hp.mlt; have := h.low; omega
theorem PlanS.later {w0 w w' : World} {X mb : Nat} {H : Type} {s : Pl3} (h : PlanS w0 w X mb H s) (hb : Below w.heap.size w w') : PlanS w0 w' X mb H s := by
  obtain ⟨v, lv, hp⟩ := h.plan
  exact ⟨⟨v, lv, hp.later hb⟩, bstep h.base hb, h.low, h.tab⟩
def PostS (w0 : World) (X mb : Nat) (H : Type) (s : Pl3) (w : World) (e : Ending) (w' : World) : Prop := e = .returned (.tuple #[]) ∧ PlanS w0 w' X mb H s ∧ Kept w w'
theorem Kept.trans {a b c : World} (h : Kept a b) (k : Kept b c) : Kept a c := fun q o ty fr hq ht => by
  have h1 := h q o ty fr hq ht
  exact (k q o ty fr (h1.trans hq) ht).trans h1
theorem Kept.of_below {w w' : World} (h : Below w.heap.size w w') : Kept w w' := fun k _ _ _ hk _ => h.block k (Array.getElem?_eq_some_iff.1 hk).1
/-- the box of a pointer to the plan, of a number -/
def BoxP (w : World) (b X : Nat) : Prop := w.heap[b]? = some (.cells #[.pointer (some ⟨X, 0, none⟩)] 82 (0, 0))
def BoxI (w : World) (b : Nat) (n : Int) : Prop := w.heap[b]? = some (.cells #[.int .i64 n] 3 (0, 0))
theorem BoxP.kept {w w' : World} {b X : Nat} (h : BoxP w b X) (k : Kept w w') : BoxP w' b X := (k b _ _ _ h (.inl rfl)).trans h
theorem BoxI.kept {w w' : World} {b : Nat} {n : Int} (h : BoxI w b n) (k : Kept w w') : BoxI w' b n := (k b _ _ _ h (.inr rfl)).trans h
theorem BoxP.cell {w : World} {b X : Nat} (h : BoxP w b X) : w.cell? ⟨b, 0, none⟩ = some (.pointer (some ⟨X, 0, none⟩)) := Lib.cell_of_heap h 0
theorem BoxI.cell {w : World} {b : Nat} {n : Int} (h : BoxI w b n) : w.cell? ⟨b, 0, none⟩ = some (.int .i64 n) := Lib.cell_of_heap h 0
theorem c_head {w0 w : World} {X mb : Nat} {H : Type} {s : Pl3} (a b : Int) (h : PlanS w0 w X mb H s) (hk : Ok 5000 s) :
    Calls Tryz.prog 103 #[.pointer (some ⟨X, 0, none⟩), .int .i64 a, .int .i64 b] w (PostS w0 X mb H (s.wr (headI a b)) w) := by
  refine (phead_any w w0.heap.size X mb H s.ps s.M s.L a b h.plan h.lowX (by have := hk.1; omega)).mono ?_
  rintro e w' ⟨rfl, h1, h2⟩
  exact ⟨rfl, ⟨h1, h.base.trans h2.below, h.low, h.tab⟩, h2.kept⟩
theorem c_tail {w0 w : World} {X mb : Nat} {H : Type} {s : Pl3} (a b : Int) (h : PlanS w0 w X mb H s) (hk : Ok 5000 s) :
    Calls Tryz.prog 104 #[.pointer (some ⟨X, 0, none⟩), .int .i64 a, .int .i64 b] w (PostS w0 X mb H (s.wr (tailI a b)) w) := by
  refine (ptail_any w w0.heap.size X mb H s.ps s.M s.L a b h.plan h.lowX (by have := hk.1; omega)).mono ?_
  rintro e w' ⟨rfl, h1, h2⟩
  exact ⟨rfl, ⟨h1, h.base.trans h2.below, h.low, h.tab⟩, h2.kept⟩
theorem c_move {w0 w : World} {X mb : Nat} {H : Type} {s : Pl3} (a b : Int) (h : PlanS w0 w X mb H s) (hk : Ok 5000 s) :
    Calls Tryz.prog 173 #[.pointer (some ⟨X, 0, none⟩), .int .i64 a, .int .i64 b] w (PostS w0 X mb H (s.wr (moveI a b)) w) := by
  refine (pmove_any w w0.heap.size X mb H s.ps s.M s.L a b h.plan h.lowX (by have := hk.1; omega)).mono ?_
  rintro e w' ⟨rfl, h1, h2⟩
  exact ⟨rfl, ⟨h1, h.base.trans h2.below, h.low, h.tab⟩, h2.kept⟩
theorem c_cons {w0 w : World} {X mb : Nat} {H : Type} {s : Pl3} (a b c : Int) (h : PlanS w0 w X mb H s) (hk : Ok 5000 s) :
    Calls Tryz.prog 102 #[.pointer (some ⟨X, 0, none⟩), .int .i64 a, .int .i64 b, .int .i64 c] w (PostS w0 X mb H (s.wr (consI a b c)) w) := by
  refine (pcons_any w w0.heap.size X mb H s.ps s.M s.L a b c h.plan h.lowX (by have := hk.1; omega)).mono ?_
  rintro e w' ⟨rfl, h1, h2⟩
  exact ⟨rfl, ⟨h1, h.base.trans h2.below, h.low, h.tab⟩, h2.kept⟩
theorem c_set {w0 w : World} {X mb : Nat} {H : Type} {s : Pl3} (a : Int) (t : List UInt8) (ht : t.length ≤ 1000000) (h : PlanS w0 w X mb H s) (hk : Ok 5000 s) :
    Calls Tryz.prog 101 #[.pointer (some ⟨X, 0, none⟩), .int .i64 a, .string (S t)] w (PostS w0 X mb H (s.wr (setI a t)) w) := by
  refine (pset_any w w0.heap.size X mb H s.ps s.M s.L a t h.plan h.lowX (by have := hk.1; omega) (by omega)).mono ?_
  rintro e w' ⟨rfl, h1, h2⟩
  exact ⟨rfl, ⟨h1, h.base.trans h2.below, h.low, h.tab⟩, h2.kept⟩
theorem c_place {w0 w : World} {X mb : Nat} {H : Type} {s : Pl3} (n : List UInt8) (hs : n.length ≤ 1000000) (h : PlanS w0 w X mb H s) (hk : Ok 5000 s) :
    Calls Tryz.prog 126 #[.pointer (some ⟨X, 0, none⟩), .string (S n)] w (PostS w0 X mb H (s.place n) w) := by
  refine (place_any w w0.heap.size X mb H s.ps s.M s.L n h.plan h.low (by have := hk.1; omega) (by have := hk.2.1; omega) hs).mono ?_
  rintro e w' ⟨rfl, h1, h2⟩
  exact ⟨rfl, ⟨h1, h.base.trans h2.below, h.low, h.tab⟩, h2.kept⟩
theorem c_jump {w0 w : World} {X mb : Nat} {H : Type} {s : Pl3} (n : List UInt8) (a : Int) (h : PlanS w0 w X mb H s) (hk : Ok 5000 s) :
    Calls Tryz.prog 125 #[.pointer (some ⟨X, 0, none⟩), .string (S n), .int .i64 a] w (PostS w0 X mb H (s.jumpTo n a) w) := by
  refine (jumpTo_any w w0.heap.size X mb H s.ps s.M s.L n a h.plan h.lowX (by have := hk.1; omega) (by have := hk.2.2; omega)).mono ?_
  rintro e w' ⟨rfl, h1, h2⟩
  exact ⟨rfl, ⟨h1, h.base.trans h2.below, h.low, h.tab⟩, h2.kept⟩
theorem Kept.refl (w : World) : Kept w w := fun _ _ _ _ _ _ => rfl
set_option maxHeartbeats 1600000 in
set_option maxRecDepth 100000 in
theorem c_shift {w0 w1 : World} {X mb : Nat} {H : Type} {s : Pl3} (t f : Int) (h : PlanS w0 w1 X mb H s) (hk : Ok 4990 s) :
    Calls Tryz.prog 132 #[.pointer (some ⟨X, 0, none⟩), .int .i64 t, .int .i64 f] w1 (PostS w0 X mb H (s.shift t f) w1) := by
  have H1 := Lib.hid h; have K1 := Lib.hid (Kept.refl w1)
  clear h
  go_enter Tryz.func132, Tryz.ntmps132
  go_wp2_with fail
  refine (c_head 2 f H1.out (hk.mono (by omega))).mono ?_
  rintro e w2 ⟨rfl, h, k⟩
  have H2 := Lib.hid h; have K2 := Lib.hid (K1.out.trans k)
  clear h k
  go_wp2_with fail
  refine (c_cons t 2 t H2.out ((hk.wr _).mono (by omega))).mono ?_
  rintro e w3 ⟨rfl, h, k⟩
  have H3 := Lib.hid h; have K3 := Lib.hid (K2.out.trans k)
  clear h k
  go_wp2_with fail
  refine (c_tail f f H3.out (((hk.wr _).wr _).mono (by omega))).mono ?_
  rintro e w4 ⟨rfl, h, k⟩
  have H4 := Lib.hid h; have K4 := Lib.hid (K3.out.trans k)
  clear h k
  go_wp2
  go_end0
  exact ⟨rfl, H4.out, K4.out⟩
theorem S_app_mk (a b : List UInt8) : (⟨a.toArray⟩ : ByteArray) ++ S b = S (a ++ b) := by
  rw [S]; simp [S, ByteArray.ext_iff]
set_option maxHeartbeats 1600000 in
set_option maxRecDepth 100000 in
theorem c_repeat {w0 w1 : World} {X mb : Nat} {H : Type} {s : Pl3} (a : Int) (g : Nat) (caps : Array Value) (body : Pl3 → Pl3) (d : Nat) (h : PlanS w0 w1 X mb H s) (hk : Ok 900 s) (hd : d ≤ 50)
    (eg : ∀ args w, (callFunc g args).run Tryz.prog w = .ok (.enter g args) w)
    (hO : ∀ n s, Ok n s → Ok (n + d) (body s))
    (hB : ∀ W s', Kept w1 W → PlanS w0 W X mb H s' → Ok 950 s' → Calls Tryz.prog g caps W (PostS w0 X mb H (body s') W)) :
    Calls Tryz.prog 130 #[.pointer (some ⟨X, 0, none⟩), .int .i64 a, .func (.func g) #[] caps] w1 (PostS w0 X mb H (s.rep a body) w1) := by
  have H1 := Lib.hid h; have K1 := Lib.hid (Kept.refl w1)
  have HI := Lib.hid (fun W (hb : Below w0.heap.size w0 W) => itoa_p s.ps.length W (by have := hk.1; omega) (h.tab.below hb))
  obtain ⟨v, lv, hp⟩ := h.plan
  obtain ⟨A, c, rfl⟩ : ∃ A c, v = .slice A s.ps.length c := by
    rcases hp.own.2 with ⟨rfl, h0⟩ | ⟨g, cap, cur, rfl, _⟩
    · exact ⟨none, 0, by rw [h0]⟩
    · exact ⟨_, _, rfl⟩
  have c0 : w1.cell? ⟨X, 0, none⟩ = some (.slice A s.ps.length c) := Lib.cell_of_heap hp.mem 0
  have HB := Lib.hid hB; have HO := Lib.hid hO
  have HK := Lib.hid hk
  have hd6 : ¬ 9223372036854775807 < 6 + (dg3 s.ps.length).length := by have := dg3_len s.ps.length; omega
  have hd5 : ¬ 9223372036854775807 < 5 + (dg3 s.ps.length).length := by have := dg3_len s.ps.length; omega
  have HDL := Lib.hid (dg3_len s.ps.length)
  clear h hB hO hp hk
  generalize hl : s.ps.length = k at *
  have HLK := Lib.hid hl
  clear hl
  go_enter Tryz.func130, Tryz.ntmps130
  go_wp2_with fail
  refine (HI.out _ H1.out.base).mono ?_
  rintro e w2 ⟨rfl, hb⟩
  have H2 := Lib.hid (H1.out.later hb); have K2 := Lib.hid (Kept.of_below hb)
  clear hb c0
  have HT : Hid ((⟨#[116, 101, 115, 116, 32]⟩ : ByteArray) ++ S (dg3 k) = S (Pl3.tN k)) := Lib.hid (S_app_mk [116, 101, 115, 116, 32] _)
  have HAG : Hid ((⟨#[97, 103, 97, 105, 110, 32]⟩ : ByteArray) ++ S (dg3 k) = S (Pl3.aN k)) := Lib.hid (S_app_mk [97, 103, 97, 105, 110, 32] _)
  have HLA : Hid ((Pl3.aN k).length ≤ 1000000 ∧ (Pl3.tN k).length ≤ 1000000) := Lib.hid ⟨by have := HDL.out; simp [Pl3.aN]; omega, by have := HDL.out; simp [Pl3.tN]; omega⟩
  go_wp2_with fail
  have hc := c_jump (Pl3.tN k) 10 H2.out (HK.out.mono (by omega))
  rw [← HT.out] at hc
  refine hc.mono ?_
  rintro e w3 ⟨rfl, h, k9⟩
  have H3 := Lib.hid h; have K3 := Lib.hid (K2.out.trans k9)
  clear h k9 hc
  go_wp2_with fail
  have hc := c_place (Pl3.aN k) HLA.out.1 H3.out ((HK.out.jumpTo _ _).mono (by omega))
  rw [← HAG.out] at hc
  refine hc.mono ?_
  rintro e w4 ⟨rfl, h, k9⟩
  have H4 := Lib.hid h; have K4 := Lib.hid (K3.out.trans k9)
  clear h k9 hc
  go_wp2_with fail
  refine (HB.out _ _ K4.out H4.out (((HK.out.jumpTo _ _).place _).mono (by omega))).mono ?_
  rintro e w5 ⟨rfl, h, k9⟩
  have H5 := Lib.hid h; have K5 := Lib.hid (K4.out.trans k9)
  clear h k9
  go_wp2_with fail
  have hc := c_place (Pl3.tN k) HLA.out.2 H5.out ((HO.out _ _ ((HK.out.jumpTo _ _).place _)).mono (by omega))
  rw [← HT.out] at hc
  refine hc.mono ?_
  rintro e w6 ⟨rfl, h, k9⟩
  have H6 := Lib.hid h; have K6 := Lib.hid (K5.out.trans k9)
  clear h k9 hc
  go_wp2_with fail
  have hc := c_jump (Pl3.aN k) a H6.out (((HO.out _ _ ((HK.out.jumpTo _ _).place _)).place _).mono (by omega))
  rw [← HAG.out] at hc
  refine hc.mono ?_
  rintro e w7 ⟨rfl, h, k9⟩
  have H7 := Lib.hid h; have K7 := Lib.hid (K6.out.trans k9)
  clear h k9 hc
  go_wp2
  go_end0
  exact ⟨rfl, by unfold Pl3.rep; rw [HLK.out]; exact H7.out, K7.out⟩
end Go.Proofs.YtmhoacnbmbhcjaaGreatDoor

namespace Go.Proofs.YtmhoacnbmbhcjaaGreatDoor
open Go.RowKit Go.Maps Pl

namespace Pl3
def start (s : Pl3) : Pl3 := ((((s.wr (headI 5 0)).wr (tailI 0 0)).wr (consI 0 0 7)).wr (setI 10 [49, 48, 48])).jumpTo [110, 101, 120, 116] 10
def op1 (s : Pl3) : Pl3 := s.wr (moveI 3 1)
def op2 (s : Pl3) : Pl3 := s.read 3 1
def op3 (s : Pl3) : Pl3 := ((((s.wr (headI 9 1)).read 3 9).wr (tailI 1 1)).read 9 1).wr (consI 3 3 9)
def op4 (s : Pl3) : Pl3 := (s.read 3 1).wr (headI 3 3)
def op5 (s : Pl3) : Pl3 := (s.read 3 1).wr (tailI 3 3)
def jumpB1 (s : Pl3) : Pl3 := (s.wr (tailI 1 1)).shift 7 5
def jumpB2 (s : Pl3) : Pl3 := (s.wr (tailI 1 1)).shift 5 7
def storeB1 (s : Pl3) : Pl3 := (s.wr (tailI 4 4)).shift 6 0
def storeB2 (s : Pl3) : Pl3 := s.shift 0 6
def readB (a i : Int) (s : Pl3) : Pl3 := (s.wr (tailI a a)).wr (tailI i i)
def jump (s : Pl3) : Pl3 := (((((((((((s.read 3 4).jumpTo [109, 97, 100, 101] 3).jumpTo [111, 110] 10).place [109, 97, 100, 101]).wr (headI 3 1)).wr (tailI 1 1)).jumpTo [98, 97, 99, 107] 3).rep 1 jumpB1).jumpTo [110, 101, 120, 116] 10).place [98, 97, 99, 107]).rep 1 jumpB2).jumpTo [110, 101, 120, 116] 10
def store (s : Pl3) : Pl3 := ((((s.place [115, 116, 111, 114, 101]).rep 4 storeB1).wr (tailI 0 0)).wr (consI 0 3 0)).rep 6 storeB2
def next (s : Pl3) : Pl3 := ((((s.place [111, 110]).shift 7 5).place [110, 101, 120, 116]).jumpTo [115, 116, 101, 112] 5).wr (headI 0 0)
end Pl3
theorem Ok.shift {n : Nat} {s : Pl3} (h : Ok n s) (t f : Int) : Ok (n + 3) (s.shift t f) := ((h.wr _).wr _).wr _
theorem Ok.rep {n d : Nat} {s : Pl3} {body : Pl3 → Pl3} (h : Ok n s) (a : Int) (hO : ∀ n s, Ok n s → Ok (n + d) (body s)) : Ok (n + d + 4) (s.rep a body) :=
  (((hO _ _ ((h.jumpTo _ _).place _)).place _).jumpTo _ _).mono (by omega)
theorem Ok.readB (a i : Int) : ∀ n s, Ok n s → Ok (n + 2) (Pl3.readB a i s) := fun _ _ h => (h.wr _).wr _
theorem Ok.read {n : Nat} {s : Pl3} (h : Ok n s) (a i : Int) : Ok (n + 8) (s.read a i) := (((h.wr _).rep i (Ok.readB a i)).wr _).mono (by omega)
theorem Ok.jumpB1 : ∀ n s, Ok n s → Ok (n + 4) (Pl3.jumpB1 s) := fun _ _ h => (h.wr _).shift _ _
theorem Ok.jumpB2 : ∀ n s, Ok n s → Ok (n + 4) (Pl3.jumpB2 s) := fun _ _ h => (h.wr _).shift _ _
theorem Ok.storeB1 : ∀ n s, Ok n s → Ok (n + 4) (Pl3.storeB1 s) := fun _ _ h => (h.wr _).shift _ _
theorem Ok.storeB2 : ∀ n s, Ok n s → Ok (n + 3) (Pl3.storeB2 s) := fun _ _ h => h.shift _ _
set_option maxHeartbeats 3200000 in
set_option maxRecDepth 100000 in
theorem k_read {w0 w1 : World} {X mb b3 b4 b5 : Nat} {H : Type} {s : Pl3} (a i : Int) (h3 : BoxP w1 b3 X) (h4 : BoxI w1 b4 a) (h5 : BoxI w1 b5 i) (h : PlanS w0 w1 X mb H s) (hk : Ok 950 s) :
    Calls Tryz.prog 179 #[.pointer (some ⟨b3, 0, none⟩), .pointer (some ⟨b4, 0, none⟩), .pointer (some ⟨b5, 0, none⟩)] w1 (PostS w0 X mb H (Pl3.readB a i s) w1) := by
  have H1 := Lib.hid (h.later (Below.refl w1.heap.size w1).drew)
  have c3 := h3.cell; have c4 := h4.cell
  have P3 := Lib.hid h3; have P5 := Lib.hid h5
  clear h h3 h4 h5
  go_enter Tryz.func179, Tryz.ntmps179
  go_wp2_with fail
  go_still_tail 5, (by kernel_rfl)
  change wpList _ _ _ _ _ w1.drew
  go_wp2_with fail
  refine (c_tail a a H1.out (hk.mono (by omega))).mono ?_
  rintro e w2 ⟨rfl, h, k9⟩
  have K2 : Hid (Kept w1 w2) := Lib.hid k9
  have H2 := Lib.hid (h.later (Below.refl w2.heap.size w2).drew)
  have d3 := (P3.out.kept K2.out).cell; have d5 := (P5.out.kept K2.out).cell
  clear h k9 c3 c4
  go_wp2_with fail
  go_still_tail 5, (by kernel_rfl)
  change wpList _ _ _ _ _ w2.drew
  go_wp2_with fail
  refine (c_tail i i H2.out ((hk.wr _).mono (by omega))).mono ?_
  rintro e w3 ⟨rfl, h, k9⟩
  have K3 : Hid (Kept w1 w3) := Lib.hid (K2.out.trans k9)
  have H3 := Lib.hid h
  clear h k9 d3 d5
  go_wp2
  go_end0
  exact ⟨rfl, H3.out, K3.out⟩
set_option maxHeartbeats 3200000 in
set_option maxRecDepth 100000 in
theorem c_read {w0 w1 : World} {X mb : Nat} {H : Type} {s : Pl3} (a i : Int) (h : PlanS w0 w1 X mb H s) (hk : Ok 800 s) :
    Calls Tryz.prog 129 #[.pointer (some ⟨X, 0, none⟩), .int .i64 a, .int .i64 i] w1 (PostS w0 X mb H (s.read a i) w1) := by
  have a1 := alloc_belowW w1 (.cells #[.pointer (some ⟨X, 0, none⟩)] 82)
  have a2 := alloc_belowW (w1.alloc (.cells #[.pointer (some ⟨X, 0, none⟩)] 82)) (.cells #[.int .i64 a] 3)
  have a3 := alloc_belowW ((w1.alloc (.cells #[.pointer (some ⟨X, 0, none⟩)] 82)).alloc (.cells #[.int .i64 a] 3)) (.cells #[.int .i64 i] 3)
  have p3 : BoxP (w1.alloc (.cells #[.pointer (some ⟨X, 0, none⟩)] 82)) w1.heap.size X := heap_alloc_new w1 _
  have p4 : BoxI ((w1.alloc (.cells #[.pointer (some ⟨X, 0, none⟩)] 82)).alloc (.cells #[.int .i64 a] 3)) (w1.heap.size + 1) a := by
    have e := heap_alloc_new (w1.alloc (.cells #[.pointer (some ⟨X, 0, none⟩)] 82)) (.cells #[.int .i64 a] 3)
    simpa [BoxI] using e
  have p5 : BoxI (((w1.alloc (.cells #[.pointer (some ⟨X, 0, none⟩)] 82)).alloc (.cells #[.int .i64 a] 3)).alloc (.cells #[.int .i64 i] 3)) (w1.heap.size + 2) i := by
    have e := heap_alloc_new ((w1.alloc (.cells #[.pointer (some ⟨X, 0, none⟩)] 82)).alloc (.cells #[.int .i64 a] 3)) (.cells #[.int .i64 i] 3)
    simpa [BoxI] using e
  have P3 := Lib.hid ((p3.kept (.of_below a2)).kept (.of_below a3)); have P4 := Lib.hid (p4.kept (.of_below a3)); have P5 := Lib.hid p5
  have K1 := Lib.hid (((Kept.of_below a1).trans (.of_below a2)).trans (.of_below a3))
  have H1 := Lib.hid (((h.later a1).later a2).later a3)
  have HK := Lib.hid hk
  clear h a1 a2 a3 p3 p4 p5 hk
  go_enter Tryz.func129, Tryz.ntmps129
  go_wp2_with fail
  generalize (((w1.alloc (.cells #[.pointer (some ⟨X, 0, none⟩)] 82)).alloc (.cells #[.int .i64 a] 3)).alloc (.cells #[.int .i64 i] 3)) = w2 at *
  generalize w1.heap.size = b3 at *
  have c3 := P3.out.cell; have c4 := P4.out.cell
  go_still_tail 4, (by kernel_rfl)
  change wpList _ _ _ _ _ w2.drew
  go_wp2_with fail
  refine (c_move a 0 (H1.out.later (Below.refl w2.heap.size w2).drew) (HK.out.mono (by omega))).mono ?_
  rintro e w3 ⟨rfl, h, k9⟩
  have K3 : Hid (Kept w2 w3) := Lib.hid k9
  have H3 := Lib.hid h
  have Q3 := Lib.hid (P3.out.kept K3.out); have Q4 := Lib.hid (P4.out.kept K3.out); have Q5 := Lib.hid (P5.out.kept K3.out)
  have d3 := Q3.out.cell; have d5 := Q5.out.cell
  clear h k9 c3 c4
  go_wp2_with fail
  refine (c_repeat i 179 #[.pointer (some ⟨b3, 0, none⟩), .pointer (some ⟨b3 + 1, 0, none⟩), .pointer (some ⟨b3 + 2, 0, none⟩)] (Pl3.readB a i) 2 H3.out ((HK.out.wr _).mono (by omega)) (by omega) (enters_of Tryz.func179 (by kernel_rfl) rfl) (Ok.readB a i) (fun W s' hW hp ho => k_read a i (Q3.out.kept hW) (Q4.out.kept hW) (Q5.out.kept hW) hp ho)).mono ?_
  rintro e w4 ⟨rfl, h, k9⟩
  have K4 : Hid (Kept w2 w4) := Lib.hid (K3.out.trans k9)
  have H4 := Lib.hid h
  have e3 := (P3.out.kept K4.out).cell; have e4 := (P4.out.kept K4.out).cell
  clear h k9 d3 d5
  go_wp2_with fail
  go_still_tail 5, (by kernel_rfl)
  change wpList _ _ _ _ _ w4.drew
  go_wp2_with fail
  refine (c_head a a (H4.out.later (Below.refl w4.heap.size w4).drew) (((HK.out.wr _).rep i (Ok.readB a i)).mono (by omega))).mono ?_
  rintro e w5 ⟨rfl, h, k9⟩
  have K5 : Hid (Kept w1 w5) := Lib.hid ((K1.out.trans K4.out).trans k9)
  have H5 := Lib.hid h
  clear h k9 e3 e4
  go_wp2
  go_end0
  exact ⟨rfl, H5.out, K5.out⟩
end Go.Proofs.YtmhoacnbmbhcjaaGreatDoor

namespace Go.Proofs.YtmhoacnbmbhcjaaGreatDoor
open Go.RowKit Go.Maps Pl

set_option maxHeartbeats 3200000 in
set_option maxRecDepth 100000 in
theorem k_op1 {w0 w1 : World} {X mb : Nat} {H : Type} {s : Pl3} {b : Nat} (hb : BoxP w1 b X) (h : PlanS w0 w1 X mb H s) (hk : Ok 900 s) :
    Calls Tryz.prog 172 #[.pointer (some ⟨b, 0, none⟩)] w1 (PostS w0 X mb H (s.op1) w1) := by
  have P := Lib.hid hb; have K1 := Lib.hid (Kept.refl w1); have H1 := Lib.hid h
  have c := hb.cell
  have HK := Lib.hid hk
  clear h hb hk
  go_enter Tryz.func172, Tryz.ntmps172
  go_wp2_with fail
  refine (c_move 3 1 H1.out ((HK.out).mono (by omega))).mono ?_
  rintro e w2 ⟨rfl, h, k9⟩
  have H2 := Lib.hid h; have K2 := Lib.hid (K1.out.trans k9)
  clear c
  have c := (P.out.kept K2.out).cell
  clear h k9 H1 K1
  go_wp2
  go_end0
  exact ⟨rfl, H2.out, K2.out⟩
set_option maxHeartbeats 3200000 in
set_option maxRecDepth 100000 in
theorem k_op2 {w0 w1 : World} {X mb : Nat} {H : Type} {s : Pl3} {b : Nat} (hb : BoxP w1 b X) (h : PlanS w0 w1 X mb H s) (hk : Ok 780 s) :
    Calls Tryz.prog 174 #[.pointer (some ⟨b, 0, none⟩)] w1 (PostS w0 X mb H (s.op2) w1) := by
  have P := Lib.hid hb; have K1 := Lib.hid (Kept.refl w1); have H1 := Lib.hid h
  have c := hb.cell
  have HK := Lib.hid hk
  clear h hb hk
  go_enter Tryz.func174, Tryz.ntmps174
  go_wp2_with fail
  refine (c_read 3 1 H1.out ((HK.out).mono (by omega))).mono ?_
  rintro e w2 ⟨rfl, h, k9⟩
  have H2 := Lib.hid h; have K2 := Lib.hid (K1.out.trans k9)
  clear c
  have c := (P.out.kept K2.out).cell
  clear h k9 H1 K1
  go_wp2
  go_end0
  exact ⟨rfl, H2.out, K2.out⟩
set_option maxHeartbeats 3200000 in
set_option maxRecDepth 100000 in
theorem k_op3 {w0 w1 : World} {X mb : Nat} {H : Type} {s : Pl3} {b : Nat} (hb : BoxP w1 b X) (h : PlanS w0 w1 X mb H s) (hk : Ok 700 s) :
    Calls Tryz.prog 175 #[.pointer (some ⟨b, 0, none⟩)] w1 (PostS w0 X mb H (s.op3) w1) := by
  have P := Lib.hid hb; have K1 := Lib.hid (Kept.refl w1); have H1 := Lib.hid h
  have c := hb.cell
  have HK := Lib.hid hk
  clear h hb hk
  go_enter Tryz.func175, Tryz.ntmps175
  go_wp2_with fail
  refine (c_head 9 1 H1.out ((HK.out).mono (by omega))).mono ?_
  rintro e w2 ⟨rfl, h, k9⟩
  have H2 := Lib.hid h; have K2 := Lib.hid (K1.out.trans k9)
  clear c
  have c := (P.out.kept K2.out).cell
  clear h k9 H1 K1
  go_wp2_with fail
  refine (c_read 3 9 H2.out (((HK.out.wr _)).mono (by omega))).mono ?_
  rintro e w3 ⟨rfl, h, k9⟩
  have H3 := Lib.hid h; have K3 := Lib.hid (K2.out.trans k9)
  clear c
  have c := (P.out.kept K3.out).cell
  clear h k9 H2 K2
  go_wp2_with fail
  refine (c_tail 1 1 H3.out ((((HK.out.wr _).read 3 9)).mono (by omega))).mono ?_
  rintro e w4 ⟨rfl, h, k9⟩
  have H4 := Lib.hid h; have K4 := Lib.hid (K3.out.trans k9)
  clear c
  have c := (P.out.kept K4.out).cell
  clear h k9 H3 K3
  go_wp2_with fail
  refine (c_read 9 1 H4.out (((((HK.out.wr _).read 3 9).wr _)).mono (by omega))).mono ?_
  rintro e w5 ⟨rfl, h, k9⟩
  have H5 := Lib.hid h; have K5 := Lib.hid (K4.out.trans k9)
  clear c
  have c := (P.out.kept K5.out).cell
  clear h k9 H4 K4
  go_wp2_with fail
  refine (c_cons 3 3 9 H5.out ((((((HK.out.wr _).read 3 9).wr _).read 9 1)).mono (by omega))).mono ?_
  rintro e w6 ⟨rfl, h, k9⟩
  have H6 := Lib.hid h; have K6 := Lib.hid (K5.out.trans k9)
  clear c
  have c := (P.out.kept K6.out).cell
  clear h k9 H5 K5
  go_wp2
  go_end0
  exact ⟨rfl, H6.out, K6.out⟩
set_option maxHeartbeats 3200000 in
set_option maxRecDepth 100000 in
theorem k_op4 {w0 w1 : World} {X mb : Nat} {H : Type} {s : Pl3} {b : Nat} (hb : BoxP w1 b X) (h : PlanS w0 w1 X mb H s) (hk : Ok 700 s) :
    Calls Tryz.prog 176 #[.pointer (some ⟨b, 0, none⟩)] w1 (PostS w0 X mb H (s.op4) w1) := by
  have P := Lib.hid hb; have K1 := Lib.hid (Kept.refl w1); have H1 := Lib.hid h
  have c := hb.cell
  have HK := Lib.hid hk
  clear h hb hk
  go_enter Tryz.func176, Tryz.ntmps176
  go_wp2_with fail
  refine (c_read 3 1 H1.out ((HK.out).mono (by omega))).mono ?_
  rintro e w2 ⟨rfl, h, k9⟩
  have H2 := Lib.hid h; have K2 := Lib.hid (K1.out.trans k9)
  clear c
  have c := (P.out.kept K2.out).cell
  clear h k9 H1 K1
  go_wp2_with fail
  refine (c_head 3 3 H2.out (((HK.out.read 3 1)).mono (by omega))).mono ?_
  rintro e w3 ⟨rfl, h, k9⟩
  have H3 := Lib.hid h; have K3 := Lib.hid (K2.out.trans k9)
  clear c
  have c := (P.out.kept K3.out).cell
  clear h k9 H2 K2
  go_wp2
  go_end0
  exact ⟨rfl, H3.out, K3.out⟩
set_option maxHeartbeats 3200000 in
set_option maxRecDepth 100000 in
theorem k_op5 {w0 w1 : World} {X mb : Nat} {H : Type} {s : Pl3} {b : Nat} (hb : BoxP w1 b X) (h : PlanS w0 w1 X mb H s) (hk : Ok 700 s) :
    Calls Tryz.prog 177 #[.pointer (some ⟨b, 0, none⟩)] w1 (PostS w0 X mb H (s.op5) w1) := by
  have P := Lib.hid hb; have K1 := Lib.hid (Kept.refl w1); have H1 := Lib.hid h
  have c := hb.cell
  have HK := Lib.hid hk
  clear h hb hk
  go_enter Tryz.func177, Tryz.ntmps177
  go_wp2_with fail
  refine (c_read 3 1 H1.out ((HK.out).mono (by omega))).mono ?_
  rintro e w2 ⟨rfl, h, k9⟩
  have H2 := Lib.hid h; have K2 := Lib.hid (K1.out.trans k9)
  clear c
  have c := (P.out.kept K2.out).cell
  clear h k9 H1 K1
  go_wp2_with fail
  refine (c_tail 3 3 H2.out (((HK.out.read 3 1)).mono (by omega))).mono ?_
  rintro e w3 ⟨rfl, h, k9⟩
  have H3 := Lib.hid h; have K3 := Lib.hid (K2.out.trans k9)
  clear c
  have c := (P.out.kept K3.out).cell
  clear h k9 H2 K2
  go_wp2
  go_end0
  exact ⟨rfl, H3.out, K3.out⟩
set_option maxHeartbeats 3200000 in
set_option maxRecDepth 100000 in
theorem k_jumpB1 {w0 w1 : World} {X mb : Nat} {H : Type} {s : Pl3} {b : Nat} (hb : BoxP w1 b X) (h : PlanS w0 w1 X mb H s) (hk : Ok 950 s) :
    Calls Tryz.prog 131 #[.pointer (some ⟨b, 0, none⟩)] w1 (PostS w0 X mb H (s.jumpB1) w1) := by
  have P := Lib.hid hb; have K1 := Lib.hid (Kept.refl w1); have H1 := Lib.hid h
  have c := hb.cell
  have HK := Lib.hid hk
  clear h hb hk
  go_enter Tryz.func131, Tryz.ntmps131
  go_wp2_with fail
  refine (c_tail 1 1 H1.out ((HK.out).mono (by omega))).mono ?_
  rintro e w2 ⟨rfl, h, k9⟩
  have H2 := Lib.hid h; have K2 := Lib.hid (K1.out.trans k9)
  clear c
  have c := (P.out.kept K2.out).cell
  clear h k9 H1 K1
  go_wp2_with fail
  refine (c_shift 7 5 H2.out (((HK.out.wr _)).mono (by omega))).mono ?_
  rintro e w3 ⟨rfl, h, k9⟩
  have H3 := Lib.hid h; have K3 := Lib.hid (K2.out.trans k9)
  clear c
  have c := (P.out.kept K3.out).cell
  clear h k9 H2 K2
  go_wp2
  go_end0
  exact ⟨rfl, H3.out, K3.out⟩
set_option maxHeartbeats 3200000 in
set_option maxRecDepth 100000 in
theorem k_jumpB2 {w0 w1 : World} {X mb : Nat} {H : Type} {s : Pl3} {b : Nat} (hb : BoxP w1 b X) (h : PlanS w0 w1 X mb H s) (hk : Ok 950 s) :
    Calls Tryz.prog 133 #[.pointer (some ⟨b, 0, none⟩)] w1 (PostS w0 X mb H (s.jumpB2) w1) := by
  have P := Lib.hid hb; have K1 := Lib.hid (Kept.refl w1); have H1 := Lib.hid h
  have c := hb.cell
  have HK := Lib.hid hk
  clear h hb hk
  go_enter Tryz.func133, Tryz.ntmps133
  go_wp2_with fail
  refine (c_tail 1 1 H1.out ((HK.out).mono (by omega))).mono ?_
  rintro e w2 ⟨rfl, h, k9⟩
  have H2 := Lib.hid h; have K2 := Lib.hid (K1.out.trans k9)
  clear c
  have c := (P.out.kept K2.out).cell
  clear h k9 H1 K1
  go_wp2_with fail
  refine (c_shift 5 7 H2.out (((HK.out.wr _)).mono (by omega))).mono ?_
  rintro e w3 ⟨rfl, h, k9⟩
  have H3 := Lib.hid h; have K3 := Lib.hid (K2.out.trans k9)
  clear c
  have c := (P.out.kept K3.out).cell
  clear h k9 H2 K2
  go_wp2
  go_end0
  exact ⟨rfl, H3.out, K3.out⟩
set_option maxHeartbeats 3200000 in
set_option maxRecDepth 100000 in
theorem k_storeB1 {w0 w1 : World} {X mb : Nat} {H : Type} {s : Pl3} {b : Nat} (hb : BoxP w1 b X) (h : PlanS w0 w1 X mb H s) (hk : Ok 950 s) :
    Calls Tryz.prog 134 #[.pointer (some ⟨b, 0, none⟩)] w1 (PostS w0 X mb H (s.storeB1) w1) := by
  have P := Lib.hid hb; have K1 := Lib.hid (Kept.refl w1); have H1 := Lib.hid h
  have c := hb.cell
  have HK := Lib.hid hk
  clear h hb hk
  go_enter Tryz.func134, Tryz.ntmps134
  go_wp2_with fail
  refine (c_tail 4 4 H1.out ((HK.out).mono (by omega))).mono ?_
  rintro e w2 ⟨rfl, h, k9⟩
  have H2 := Lib.hid h; have K2 := Lib.hid (K1.out.trans k9)
  clear c
  have c := (P.out.kept K2.out).cell
  clear h k9 H1 K1
  go_wp2_with fail
  refine (c_shift 6 0 H2.out (((HK.out.wr _)).mono (by omega))).mono ?_
  rintro e w3 ⟨rfl, h, k9⟩
  have H3 := Lib.hid h; have K3 := Lib.hid (K2.out.trans k9)
  clear c
  have c := (P.out.kept K3.out).cell
  clear h k9 H2 K2
  go_wp2
  go_end0
  exact ⟨rfl, H3.out, K3.out⟩
set_option maxHeartbeats 3200000 in
set_option maxRecDepth 100000 in
theorem k_storeB2 {w0 w1 : World} {X mb : Nat} {H : Type} {s : Pl3} {b : Nat} (hb : BoxP w1 b X) (h : PlanS w0 w1 X mb H s) (hk : Ok 950 s) :
    Calls Tryz.prog 135 #[.pointer (some ⟨b, 0, none⟩)] w1 (PostS w0 X mb H (s.storeB2) w1) := by
  have P := Lib.hid hb; have K1 := Lib.hid (Kept.refl w1); have H1 := Lib.hid h
  have c := hb.cell
  have HK := Lib.hid hk
  clear h hb hk
  go_enter Tryz.func135, Tryz.ntmps135
  go_wp2_with fail
  refine (c_shift 0 6 H1.out ((HK.out).mono (by omega))).mono ?_
  rintro e w2 ⟨rfl, h, k9⟩
  have H2 := Lib.hid h; have K2 := Lib.hid (K1.out.trans k9)
  clear c
  have c := (P.out.kept K2.out).cell
  clear h k9 H1 K1
  go_wp2
  go_end0
  exact ⟨rfl, H2.out, K2.out⟩
set_option maxHeartbeats 3200000 in
set_option maxRecDepth 100000 in
theorem c_jumpW {w0 w1 : World} {X mb : Nat} {H : Type} {s : Pl3} (h : PlanS w0 w1 X mb H s) (hk : Ok 700 s) :
    Calls Tryz.prog 64 #[.pointer (some ⟨X, 0, none⟩)] w1 (PostS w0 X mb H (s.jump) w1) := by
  have a1 := alloc_belowW w1 (.cells #[.pointer (some ⟨X, 0, none⟩)] 82)
  have p1 : BoxP (w1.alloc (.cells #[.pointer (some ⟨X, 0, none⟩)] 82)) w1.heap.size X := heap_alloc_new w1 _
  have P := Lib.hid p1; have K1 := Lib.hid (Kept.of_below a1); have H1 := Lib.hid (h.later a1)
  have c := p1.cell
  have HK := Lib.hid hk
  clear h a1 p1 hk
  go_enter Tryz.func64, Tryz.ntmps64
  go_wp2_with fail
  generalize w1.alloc (.cells #[.pointer (some ⟨X, 0, none⟩)] 82) = w1b at *
  generalize w1.heap.size = b at *
  refine (c_read 3 4 H1.out ((HK.out).mono (by omega))).mono ?_
  rintro e w2 ⟨rfl, h, k9⟩
  have H2 := Lib.hid h; have K2 := Lib.hid (K1.out.trans k9)
  have J2 : Hid (Kept w1b w2) := Lib.hid (k9)
  clear c
  have c := (P.out.kept J2.out).cell
  clear h k9 H1 K1
  go_wp2_with fail
  refine (c_jump [109, 97, 100, 101] 3 H2.out (((HK.out.read 3 4)).mono (by omega))).mono ?_
  rintro e w3 ⟨rfl, h, k9⟩
  have H3 := Lib.hid h; have K3 := Lib.hid (K2.out.trans k9)
  have J3 : Hid (Kept w1b w3) := Lib.hid (J2.out.trans k9)
  clear c
  have c := (P.out.kept J3.out).cell
  clear h k9 H2 K2 J2
  go_wp2_with fail
  refine (c_jump [111, 110] 10 H3.out ((((HK.out.read 3 4).jumpTo _ _)).mono (by omega))).mono ?_
  rintro e w4 ⟨rfl, h, k9⟩
  have H4 := Lib.hid h; have K4 := Lib.hid (K3.out.trans k9)
  have J4 : Hid (Kept w1b w4) := Lib.hid (J3.out.trans k9)
  clear c
  have c := (P.out.kept J4.out).cell
  clear h k9 H3 K3 J3
  go_wp2_with fail
  refine (c_place [109, 97, 100, 101] (by decide) H4.out (((((HK.out.read 3 4).jumpTo _ _).jumpTo _ _)).mono (by omega))).mono ?_
  rintro e w5 ⟨rfl, h, k9⟩
  have H5 := Lib.hid h; have K5 := Lib.hid (K4.out.trans k9)
  have J5 : Hid (Kept w1b w5) := Lib.hid (J4.out.trans k9)
  clear c
  have c := (P.out.kept J5.out).cell
  clear h k9 H4 K4 J4
  go_wp2_with fail
  refine (c_head 3 1 H5.out ((((((HK.out.read 3 4).jumpTo _ _).jumpTo _ _).place _)).mono (by omega))).mono ?_
  rintro e w6 ⟨rfl, h, k9⟩
  have H6 := Lib.hid h; have K6 := Lib.hid (K5.out.trans k9)
  have J6 : Hid (Kept w1b w6) := Lib.hid (J5.out.trans k9)
  clear c
  have c := (P.out.kept J6.out).cell
  clear h k9 H5 K5 J5
  go_wp2_with fail
  refine (c_tail 1 1 H6.out (((((((HK.out.read 3 4).jumpTo _ _).jumpTo _ _).place _).wr _)).mono (by omega))).mono ?_
  rintro e w7 ⟨rfl, h, k9⟩
  have H7 := Lib.hid h; have K7 := Lib.hid (K6.out.trans k9)
  have J7 : Hid (Kept w1b w7) := Lib.hid (J6.out.trans k9)
  clear c
  have c := (P.out.kept J7.out).cell
  clear h k9 H6 K6 J6
  go_wp2_with fail
  refine (c_jump [98, 97, 99, 107] 3 H7.out ((((((((HK.out.read 3 4).jumpTo _ _).jumpTo _ _).place _).wr _).wr _)).mono (by omega))).mono ?_
  rintro e w8 ⟨rfl, h, k9⟩
  have H8 := Lib.hid h; have K8 := Lib.hid (K7.out.trans k9)
  have J8 : Hid (Kept w1b w8) := Lib.hid (J7.out.trans k9)
  clear c
  have c := (P.out.kept J8.out).cell
  clear h k9 H7 K7 J7
  go_wp2_with fail
  refine (c_repeat 1 131 #[.pointer (some ⟨b, 0, none⟩)] Pl3.jumpB1 4 H8.out (((((((((HK.out.read 3 4).jumpTo _ _).jumpTo _ _).place _).wr _).wr _).jumpTo _ _)).mono (by omega)) (by omega) (enters_of Tryz.func131 (by kernel_rfl) rfl) Ok.jumpB1 (fun W s' hW hp ho => k_jumpB1 ((P.out.kept J8.out).kept hW) hp (ho.mono (by omega)))).mono ?_
  rintro e w9 ⟨rfl, h, k9⟩
  have H9 := Lib.hid h; have K9 := Lib.hid (K8.out.trans k9)
  have J9 : Hid (Kept w1b w9) := Lib.hid (J8.out.trans k9)
  clear c
  have c := (P.out.kept J9.out).cell
  clear h k9 H8 K8 J8
  go_wp2_with fail
  refine (c_jump [110, 101, 120, 116] 10 H9.out ((((((((((HK.out.read 3 4).jumpTo _ _).jumpTo _ _).place _).wr _).wr _).jumpTo _ _).rep 1 Ok.jumpB1)).mono (by omega))).mono ?_
  rintro e w10 ⟨rfl, h, k9⟩
  have H10 := Lib.hid h; have K10 := Lib.hid (K9.out.trans k9)
  have J10 : Hid (Kept w1b w10) := Lib.hid (J9.out.trans k9)
  clear c
  have c := (P.out.kept J10.out).cell
  clear h k9 H9 K9 J9
  go_wp2_with fail
  refine (c_place [98, 97, 99, 107] (by decide) H10.out (((((((((((HK.out.read 3 4).jumpTo _ _).jumpTo _ _).place _).wr _).wr _).jumpTo _ _).rep 1 Ok.jumpB1).jumpTo _ _)).mono (by omega))).mono ?_
  rintro e w11 ⟨rfl, h, k9⟩
  have H11 := Lib.hid h; have K11 := Lib.hid (K10.out.trans k9)
  have J11 : Hid (Kept w1b w11) := Lib.hid (J10.out.trans k9)
  clear c
  have c := (P.out.kept J11.out).cell
  clear h k9 H10 K10 J10
  go_wp2_with fail
  refine (c_repeat 1 133 #[.pointer (some ⟨b, 0, none⟩)] Pl3.jumpB2 4 H11.out ((((((((((((HK.out.read 3 4).jumpTo _ _).jumpTo _ _).place _).wr _).wr _).jumpTo _ _).rep 1 Ok.jumpB1).jumpTo _ _).place _)).mono (by omega)) (by omega) (enters_of Tryz.func133 (by kernel_rfl) rfl) Ok.jumpB2 (fun W s' hW hp ho => k_jumpB2 ((P.out.kept J11.out).kept hW) hp (ho.mono (by omega)))).mono ?_
  rintro e w12 ⟨rfl, h, k9⟩
  have H12 := Lib.hid h; have K12 := Lib.hid (K11.out.trans k9)
  have J12 : Hid (Kept w1b w12) := Lib.hid (J11.out.trans k9)
  clear c
  have c := (P.out.kept J12.out).cell
  clear h k9 H11 K11 J11
  go_wp2_with fail
  refine (c_jump [110, 101, 120, 116] 10 H12.out (((((((((((((HK.out.read 3 4).jumpTo _ _).jumpTo _ _).place _).wr _).wr _).jumpTo _ _).rep 1 Ok.jumpB1).jumpTo _ _).place _).rep 1 Ok.jumpB2)).mono (by omega))).mono ?_
  rintro e w13 ⟨rfl, h, k9⟩
  have H13 := Lib.hid h; have K13 := Lib.hid (K12.out.trans k9)
  have J13 : Hid (Kept w1b w13) := Lib.hid (J12.out.trans k9)
  clear c
  have c := (P.out.kept J13.out).cell
  clear h k9 H12 K12 J12
  go_wp2
  go_end0
  exact ⟨rfl, H13.out, K13.out⟩
set_option maxHeartbeats 3200000 in
set_option maxRecDepth 100000 in
theorem c_storeW {w0 w1 : World} {X mb : Nat} {H : Type} {s : Pl3} (h : PlanS w0 w1 X mb H s) (hk : Ok 700 s) :
    Calls Tryz.prog 65 #[.pointer (some ⟨X, 0, none⟩)] w1 (PostS w0 X mb H (s.store) w1) := by
  have a1 := alloc_belowW w1 (.cells #[.pointer (some ⟨X, 0, none⟩)] 82)
  have p1 : BoxP (w1.alloc (.cells #[.pointer (some ⟨X, 0, none⟩)] 82)) w1.heap.size X := heap_alloc_new w1 _
  have P := Lib.hid p1; have K1 := Lib.hid (Kept.of_below a1); have H1 := Lib.hid (h.later a1)
  have c := p1.cell
  have HK := Lib.hid hk
  clear h a1 p1 hk
  go_enter Tryz.func65, Tryz.ntmps65
  go_wp2_with fail
  generalize w1.alloc (.cells #[.pointer (some ⟨X, 0, none⟩)] 82) = w1b at *
  generalize w1.heap.size = b at *
  refine (c_place [115, 116, 111, 114, 101] (by decide) H1.out ((HK.out).mono (by omega))).mono ?_
  rintro e w2 ⟨rfl, h, k9⟩
  have H2 := Lib.hid h; have K2 := Lib.hid (K1.out.trans k9)
  have J2 : Hid (Kept w1b w2) := Lib.hid (k9)
  clear c
  have c := (P.out.kept J2.out).cell
  clear h k9 H1 K1
  go_wp2_with fail
  refine (c_repeat 4 134 #[.pointer (some ⟨b, 0, none⟩)] Pl3.storeB1 4 H2.out (((HK.out.place _)).mono (by omega)) (by omega) (enters_of Tryz.func134 (by kernel_rfl) rfl) Ok.storeB1 (fun W s' hW hp ho => k_storeB1 ((P.out.kept J2.out).kept hW) hp (ho.mono (by omega)))).mono ?_
  rintro e w3 ⟨rfl, h, k9⟩
  have H3 := Lib.hid h; have K3 := Lib.hid (K2.out.trans k9)
  have J3 : Hid (Kept w1b w3) := Lib.hid (J2.out.trans k9)
  clear c
  have c := (P.out.kept J3.out).cell
  clear h k9 H2 K2 J2
  go_wp2_with fail
  refine (c_tail 0 0 H3.out ((((HK.out.place _).rep 4 Ok.storeB1)).mono (by omega))).mono ?_
  rintro e w4 ⟨rfl, h, k9⟩
  have H4 := Lib.hid h; have K4 := Lib.hid (K3.out.trans k9)
  have J4 : Hid (Kept w1b w4) := Lib.hid (J3.out.trans k9)
  clear c
  have c := (P.out.kept J4.out).cell
  clear h k9 H3 K3 J3
  go_wp2_with fail
  refine (c_cons 0 3 0 H4.out (((((HK.out.place _).rep 4 Ok.storeB1).wr _)).mono (by omega))).mono ?_
  rintro e w5 ⟨rfl, h, k9⟩
  have H5 := Lib.hid h; have K5 := Lib.hid (K4.out.trans k9)
  have J5 : Hid (Kept w1b w5) := Lib.hid (J4.out.trans k9)
  clear c
  have c := (P.out.kept J5.out).cell
  clear h k9 H4 K4 J4
  go_wp2_with fail
  refine (c_repeat 6 135 #[.pointer (some ⟨b, 0, none⟩)] Pl3.storeB2 3 H5.out ((((((HK.out.place _).rep 4 Ok.storeB1).wr _).wr _)).mono (by omega)) (by omega) (enters_of Tryz.func135 (by kernel_rfl) rfl) Ok.storeB2 (fun W s' hW hp ho => k_storeB2 ((P.out.kept J5.out).kept hW) hp (ho.mono (by omega)))).mono ?_
  rintro e w6 ⟨rfl, h, k9⟩
  have H6 := Lib.hid h; have K6 := Lib.hid (K5.out.trans k9)
  have J6 : Hid (Kept w1b w6) := Lib.hid (J5.out.trans k9)
  clear c
  have c := (P.out.kept J6.out).cell
  clear h k9 H5 K5 J5
  go_wp2
  go_end0
  exact ⟨rfl, H6.out, K6.out⟩
set_option maxHeartbeats 3200000 in
set_option maxRecDepth 100000 in
theorem c_nextW {w0 w1 : World} {X mb : Nat} {H : Type} {s : Pl3} (h : PlanS w0 w1 X mb H s) (hk : Ok 700 s) :
    Calls Tryz.prog 66 #[.pointer (some ⟨X, 0, none⟩)] w1 (PostS w0 X mb H (s.next) w1) := by
  have K1 := Lib.hid (Kept.refl w1); have H1 := Lib.hid h
  have HK := Lib.hid hk
  clear h hk
  go_enter Tryz.func66, Tryz.ntmps66
  go_wp2_with fail
  refine (c_place [111, 110] (by decide) H1.out ((HK.out).mono (by omega))).mono ?_
  rintro e w2 ⟨rfl, h, k9⟩
  have H2 := Lib.hid h; have K2 := Lib.hid (K1.out.trans k9)
  clear h k9 H1 K1
  go_wp2_with fail
  refine (c_shift 7 5 H2.out (((HK.out.place _)).mono (by omega))).mono ?_
  rintro e w3 ⟨rfl, h, k9⟩
  have H3 := Lib.hid h; have K3 := Lib.hid (K2.out.trans k9)
  clear h k9 H2 K2
  go_wp2_with fail
  refine (c_place [110, 101, 120, 116] (by decide) H3.out ((((HK.out.place _).shift 7 5)).mono (by omega))).mono ?_
  rintro e w4 ⟨rfl, h, k9⟩
  have H4 := Lib.hid h; have K4 := Lib.hid (K3.out.trans k9)
  clear h k9 H3 K3
  go_wp2_with fail
  refine (c_jump [115, 116, 101, 112] 5 H4.out (((((HK.out.place _).shift 7 5).place _)).mono (by omega))).mono ?_
  rintro e w5 ⟨rfl, h, k9⟩
  have H5 := Lib.hid h; have K5 := Lib.hid (K4.out.trans k9)
  clear h k9 H4 K4
  go_wp2_with fail
  refine (c_head 0 0 H5.out ((((((HK.out.place _).shift 7 5).place _).jumpTo _ _)).mono (by omega))).mono ?_
  rintro e w6 ⟨rfl, h, k9⟩
  have H6 := Lib.hid h; have K6 := Lib.hid (K5.out.trans k9)
  clear h k9 H5 K5
  go_wp2
  go_end0
  exact ⟨rfl, H6.out, K6.out⟩
set_option maxHeartbeats 3200000 in
set_option maxRecDepth 100000 in
theorem c_startW {w0 w1 : World} {X mb : Nat} {H : Type} {s : Pl3} (h : PlanS w0 w1 X mb H s) (hk : Ok 700 s) :
    Calls Tryz.prog 62 #[.pointer (some ⟨X, 0, none⟩)] w1 (PostS w0 X mb H (s.start) w1) := by
  have K1 := Lib.hid (Kept.refl w1); have H1 := Lib.hid h
  have HK := Lib.hid hk
  clear h hk
  go_enter Tryz.func62, Tryz.ntmps62
  go_wp2_with fail
  refine (c_head 5 0 H1.out ((HK.out).mono (by omega))).mono ?_
  rintro e w2 ⟨rfl, h, k9⟩
  have H2 := Lib.hid h; have K2 := Lib.hid (K1.out.trans k9)
  clear h k9 H1 K1
  go_wp2_with fail
  refine (c_tail 0 0 H2.out (((HK.out.wr _)).mono (by omega))).mono ?_
  rintro e w3 ⟨rfl, h, k9⟩
  have H3 := Lib.hid h; have K3 := Lib.hid (K2.out.trans k9)
  clear h k9 H2 K2
  go_wp2_with fail
  refine (c_cons 0 0 7 H3.out ((((HK.out.wr _).wr _)).mono (by omega))).mono ?_
  rintro e w4 ⟨rfl, h, k9⟩
  have H4 := Lib.hid h; have K4 := Lib.hid (K3.out.trans k9)
  clear h k9 H3 K3
  go_wp2_with fail
  refine (c_set 10 [49, 48, 48] (by decide) H4.out (((((HK.out.wr _).wr _).wr _)).mono (by omega))).mono ?_
  rintro e w5 ⟨rfl, h, k9⟩
  have H5 := Lib.hid h; have K5 := Lib.hid (K4.out.trans k9)
  clear h k9 H4 K4
  go_wp2_with fail
  refine (c_jump [110, 101, 120, 116] 10 H5.out ((((((HK.out.wr _).wr _).wr _).wr _)).mono (by omega))).mono ?_
  rintro e w6 ⟨rfl, h, k9⟩
  have H6 := Lib.hid h; have K6 := Lib.hid (K5.out.trans k9)
  clear h k9 H5 K5
  go_wp2
  go_end0
  exact ⟨rfl, H6.out, K6.out⟩
end Go.Proofs.YtmhoacnbmbhcjaaGreatDoor

namespace Go.Proofs.YtmhoacnbmbhcjaaGreatDoor
open Go.RowKit Go.Maps Pl
def opsV (b : Nat) : Value := .agg #[.func (.func 172) #[] #[.pointer (some ⟨b, 0, none⟩)], .func (.func 174) #[] #[.pointer (some ⟨b, 0, none⟩)], .func (.func 175) #[] #[.pointer (some ⟨b, 0, none⟩)], .func (.func 176) #[] #[.pointer (some ⟨b, 0, none⟩)], .func (.func 177) #[] #[.pointer (some ⟨b, 0, none⟩)]]
def OpsOut (w0 w1 : World) (X mb : Nat) (H : Type) (s : Pl3) (e : Ending) (w' : World) : Prop := ∃ b, e = .returned (opsV b) ∧ BoxP w' b X ∧ PlanS w0 w' X mb H s ∧ Kept w1 w'
set_option maxHeartbeats 3200000 in
set_option maxRecDepth 100000 in
theorem c_operations {w0 w1 : World} {X mb : Nat} {H : Type} {s : Pl3} (h : PlanS w0 w1 X mb H s) :
    Calls Tryz.prog 127 #[.pointer (some ⟨X, 0, none⟩)] w1 (OpsOut w0 w1 X mb H s) := by
  have H1 := Lib.hid h
  clear h
  have hm : ((w1.alloc (.cells #[.pointer (some ⟨X, 0, none⟩)] 82)).alloc (.cells #[.func (.func 172) #[] #[.pointer (some ⟨w1.heap.size, 0, none⟩)], .func (.func 174) #[] #[.pointer (some ⟨w1.heap.size, 0, none⟩)], .func (.func 175) #[] #[.pointer (some ⟨w1.heap.size, 0, none⟩)], .func (.func 176) #[] #[.pointer (some ⟨w1.heap.size, 0, none⟩)], .func (.func 177) #[] #[.pointer (some ⟨w1.heap.size, 0, none⟩)]] 145)).heap[w1.heap.size + 1]? = some (.cells #[.func (.func 172) #[] #[.pointer (some ⟨w1.heap.size, 0, none⟩)], .func (.func 174) #[] #[.pointer (some ⟨w1.heap.size, 0, none⟩)], .func (.func 175) #[] #[.pointer (some ⟨w1.heap.size, 0, none⟩)], .func (.func 176) #[] #[.pointer (some ⟨w1.heap.size, 0, none⟩)], .func (.func 177) #[] #[.pointer (some ⟨w1.heap.size, 0, none⟩)]] 145 (0, 0)) := by
    have e := heap_alloc_new (w1.alloc (.cells #[.pointer (some ⟨X, 0, none⟩)] 82)) (.cells #[.func (.func 172) #[] #[.pointer (some ⟨w1.heap.size, 0, none⟩)], .func (.func 174) #[] #[.pointer (some ⟨w1.heap.size, 0, none⟩)], .func (.func 175) #[] #[.pointer (some ⟨w1.heap.size, 0, none⟩)], .func (.func 176) #[] #[.pointer (some ⟨w1.heap.size, 0, none⟩)], .func (.func 177) #[] #[.pointer (some ⟨w1.heap.size, 0, none⟩)]] 145)
    simpa using e
  have HP := Lib.hid (BoxP.kept (w := w1.alloc (.cells #[.pointer (some ⟨X, 0, none⟩)] 82)) (w' := ((w1.alloc (.cells #[.pointer (some ⟨X, 0, none⟩)] 82)).alloc (.cells #[.func (.func 172) #[] #[.pointer (some ⟨w1.heap.size, 0, none⟩)], .func (.func 174) #[] #[.pointer (some ⟨w1.heap.size, 0, none⟩)], .func (.func 175) #[] #[.pointer (some ⟨w1.heap.size, 0, none⟩)], .func (.func 176) #[] #[.pointer (some ⟨w1.heap.size, 0, none⟩)], .func (.func 177) #[] #[.pointer (some ⟨w1.heap.size, 0, none⟩)]] 145))) (heap_alloc_new w1 _) (.of_below (alloc_belowW _ _)))
  have HB : Hid (Below w1.heap.size w1 ((w1.alloc (.cells #[.pointer (some ⟨X, 0, none⟩)] 82)).alloc (.cells #[.func (.func 172) #[] #[.pointer (some ⟨w1.heap.size, 0, none⟩)], .func (.func 174) #[] #[.pointer (some ⟨w1.heap.size, 0, none⟩)], .func (.func 175) #[] #[.pointer (some ⟨w1.heap.size, 0, none⟩)], .func (.func 176) #[] #[.pointer (some ⟨w1.heap.size, 0, none⟩)], .func (.func 177) #[] #[.pointer (some ⟨w1.heap.size, 0, none⟩)]] 145))) := Lib.hid (bstep (alloc_belowW _ _) (alloc_belowW _ _))
  have R0 := Lib.hid (Lib.cell_of_heap hm 0)
  have R1 := Lib.hid (Lib.cell_of_heap hm 1)
  have R2 := Lib.hid (Lib.cell_of_heap hm 2)
  have R3 := Lib.hid (Lib.cell_of_heap hm 3)
  have R4 := Lib.hid (Lib.cell_of_heap hm 4)
  clear hm
  go_enter Tryz.func127, Tryz.ntmps127
  go_wp2
  exact bodyPost_ret (v := opsV w1.heap.size) (by simp [opsV, results, Tryz.f127, go_sem, R0.out, R1.out, R2.out, R3.out, R4.out]) rfl ⟨w1.heap.size, rfl, HP.out, H1.out.later HB.out, .of_below HB.out⟩
namespace Pl3
def notN (n : Nat) : List UInt8 := [110, 111, 116, 32] ++ dg3 n
def opsStep (n : Nat) (f : Pl3 → Pl3) (s : Pl3) : Pl3 := (((f (s.jumpTo (notN n) 8)).jumpTo [115, 116, 111, 114, 101] 10).place (notN n)).wr (tailI 8 8)
def opsHead (s : Pl3) : Pl3 := (((((s.place [115, 116, 101, 112]).wr (headI 2 5)).wr (headI 8 2)).wr (tailI 1 2)).wr (headI 4 1)).wr (tailI 1 1)
def operations (s : Pl3) : Pl3 := opsStep 4 op5 (opsStep 3 op4 (opsStep 2 op3 (opsStep 1 op2 (opsStep 0 op1 (opsHead s)))))
end Pl3
theorem Ok.opsHead {n : Nat} {s : Pl3} (h : Ok n s) : Ok (n + 6) s.opsHead := (((((h.place _).wr _).wr _).wr _).wr _).wr _
theorem Ok.opsStep {n d : Nat} {s : Pl3} {f : Pl3 → Pl3} (h : Ok n s) (k : Nat) (hf : ∀ n s, Ok n s → Ok (n + d) (f s)) : Ok (n + d + 4) (Pl3.opsStep k f s) := ((((hf _ _ (h.jumpTo _ _)).jumpTo _ _).place _).wr _).mono (by omega)
theorem Ok.op1 : ∀ n s, Ok n s → Ok (n + 1) (Pl3.op1 s) := fun _ _ h => h.wr _
theorem Ok.op2 : ∀ n s, Ok n s → Ok (n + 8) (Pl3.op2 s) := fun _ _ h => h.read _ _
theorem Ok.op3 : ∀ n s, Ok n s → Ok (n + 19) (Pl3.op3 s) := fun _ _ h => (((((h.wr _).read _ _).wr _).read _ _).wr _).mono (by omega)
theorem Ok.op4 : ∀ n s, Ok n s → Ok (n + 9) (Pl3.op4 s) := fun _ _ h => ((h.read _ _).wr _).mono (by omega)
theorem Ok.op5 : ∀ n s, Ok n s → Ok (n + 9) (Pl3.op5 s) := fun _ _ h => ((h.read _ _).wr _).mono (by omega)
theorem notN_len (n : Nat) : (Pl3.notN n).length ≤ 1000000 := by have := dg3_len n; simp [Pl3.notN]; omega
theorem itoa_lit (n : Nat) (m : Int) (hm : m = (n : Int)) (w : World) (hn : n < 1000) (hE : TabE w) : Calls Tryz.prog 128 #[.int .i64 m] w fun e w' => e = .returned (.string (S (dg3 n))) ∧ Below w.heap.size w w' := by
  subst hm; exact itoa_p n w hn hE
set_option maxHeartbeats 12800000 in
set_option maxRecDepth 100000 in
theorem c_operationsW {w0 w1 : World} {X mb : Nat} {H : Type} {s : Pl3} (h : PlanS w0 w1 X mb H s) (hk : Ok 500 s) :
    Calls Tryz.prog 63 #[.pointer (some ⟨X, 0, none⟩)] w1 (PostS w0 X mb H s.operations w1) := by
  have H1 := Lib.hid h; have HK := Lib.hid hk
  have d0 : ¬ 9223372036854775807 < 4 + (dg3 0).length := by have := dg3_len 0; omega
  have D0 := Lib.hid (S_app_mk [110, 111, 116, 32] (dg3 0))
  have d1 : ¬ 9223372036854775807 < 4 + (dg3 1).length := by have := dg3_len 1; omega
  have D1 := Lib.hid (S_app_mk [110, 111, 116, 32] (dg3 1))
  have d2 : ¬ 9223372036854775807 < 4 + (dg3 2).length := by have := dg3_len 2; omega
  have D2 := Lib.hid (S_app_mk [110, 111, 116, 32] (dg3 2))
  have d3 : ¬ 9223372036854775807 < 4 + (dg3 3).length := by have := dg3_len 3; omega
  have D3 := Lib.hid (S_app_mk [110, 111, 116, 32] (dg3 3))
  have d4 : ¬ 9223372036854775807 < 4 + (dg3 4).length := by have := dg3_len 4; omega
  have D4 := Lib.hid (S_app_mk [110, 111, 116, 32] (dg3 4))
  clear h hk
  go_enter Tryz.func63, Tryz.ntmps63
  go_wp2_with fail
  refine (c_place [115, 116, 101, 112] (by decide) H1.out ((HK.out).mono (by omega))).mono ?_
  rintro e w2 ⟨rfl, h, k9⟩
  have H2 := Lib.hid h; have K2 : Hid (Kept w1 w2) := Lib.hid (k9)
  clear h k9 H1
  go_wp2_with fail
  refine (c_head 2 5 H2.out (((HK.out.place _)).mono (by omega))).mono ?_
  rintro e w3 ⟨rfl, h, k9⟩
  have H3 := Lib.hid h; have K3 : Hid (Kept w1 w3) := Lib.hid (K2.out.trans k9)
  clear h k9 H2 K2
  go_wp2_with fail
  refine (c_head 8 2 H3.out ((((HK.out.place _).wr _)).mono (by omega))).mono ?_
  rintro e w4 ⟨rfl, h, k9⟩
  have H4 := Lib.hid h; have K4 : Hid (Kept w1 w4) := Lib.hid (K3.out.trans k9)
  clear h k9 H3 K3
  go_wp2_with fail
  refine (c_tail 1 2 H4.out (((((HK.out.place _).wr _).wr _)).mono (by omega))).mono ?_
  rintro e w5 ⟨rfl, h, k9⟩
  have H5 := Lib.hid h; have K5 : Hid (Kept w1 w5) := Lib.hid (K4.out.trans k9)
  clear h k9 H4 K4
  go_wp2_with fail
  refine (c_head 4 1 H5.out ((((((HK.out.place _).wr _).wr _).wr _)).mono (by omega))).mono ?_
  rintro e w6 ⟨rfl, h, k9⟩
  have H6 := Lib.hid h; have K6 : Hid (Kept w1 w6) := Lib.hid (K5.out.trans k9)
  clear h k9 H5 K5
  go_wp2_with fail
  refine (c_tail 1 1 H6.out (((((((HK.out.place _).wr _).wr _).wr _).wr _)).mono (by omega))).mono ?_
  rintro e w7 ⟨rfl, h, k9⟩
  have H7 := Lib.hid h; have K7 : Hid (Kept w1 w7) := Lib.hid (K6.out.trans k9)
  clear h k9 H6 K6
  go_wp2_with fail
  refine (c_operations H7.out).mono ?_
  rintro e w8 ⟨b, rfl, hb, h, k9⟩
  have H8 := Lib.hid h; have P8 := Lib.hid hb; have K8 : Hid (Kept w1 w8) := Lib.hid (K7.out.trans k9)
  clear h hb k9 H7 K7
  unfold opsV
  go_wp2_with fail
  have ix0 : ∀ w : World, (Instr.index 145 (.agg #[.func (.func 172) #[] #[.pointer (some ⟨b, 0, none⟩)], .func (.func 174) #[] #[.pointer (some ⟨b, 0, none⟩)], .func (.func 175) #[] #[.pointer (some ⟨b, 0, none⟩)], .func (.func 176) #[] #[.pointer (some ⟨b, 0, none⟩)], .func (.func 177) #[] #[.pointer (some ⟨b, 0, none⟩)]]) (.int .i64 0)).run Tryz.prog w = .ok (.func (.func 172) #[] #[.pointer (some ⟨b, 0, none⟩)]) w := fun w => by kernel_rfl
  have ix1 : ∀ w : World, (Instr.index 145 (.agg #[.func (.func 172) #[] #[.pointer (some ⟨b, 0, none⟩)], .func (.func 174) #[] #[.pointer (some ⟨b, 0, none⟩)], .func (.func 175) #[] #[.pointer (some ⟨b, 0, none⟩)], .func (.func 176) #[] #[.pointer (some ⟨b, 0, none⟩)], .func (.func 177) #[] #[.pointer (some ⟨b, 0, none⟩)]]) (.int .i64 1)).run Tryz.prog w = .ok (.func (.func 174) #[] #[.pointer (some ⟨b, 0, none⟩)]) w := fun w => by kernel_rfl
  have ix2 : ∀ w : World, (Instr.index 145 (.agg #[.func (.func 172) #[] #[.pointer (some ⟨b, 0, none⟩)], .func (.func 174) #[] #[.pointer (some ⟨b, 0, none⟩)], .func (.func 175) #[] #[.pointer (some ⟨b, 0, none⟩)], .func (.func 176) #[] #[.pointer (some ⟨b, 0, none⟩)], .func (.func 177) #[] #[.pointer (some ⟨b, 0, none⟩)]]) (.int .i64 2)).run Tryz.prog w = .ok (.func (.func 175) #[] #[.pointer (some ⟨b, 0, none⟩)]) w := fun w => by kernel_rfl
  have ix3 : ∀ w : World, (Instr.index 145 (.agg #[.func (.func 172) #[] #[.pointer (some ⟨b, 0, none⟩)], .func (.func 174) #[] #[.pointer (some ⟨b, 0, none⟩)], .func (.func 175) #[] #[.pointer (some ⟨b, 0, none⟩)], .func (.func 176) #[] #[.pointer (some ⟨b, 0, none⟩)], .func (.func 177) #[] #[.pointer (some ⟨b, 0, none⟩)]]) (.int .i64 3)).run Tryz.prog w = .ok (.func (.func 176) #[] #[.pointer (some ⟨b, 0, none⟩)]) w := fun w => by kernel_rfl
  have ix4 : ∀ w : World, (Instr.index 145 (.agg #[.func (.func 172) #[] #[.pointer (some ⟨b, 0, none⟩)], .func (.func 174) #[] #[.pointer (some ⟨b, 0, none⟩)], .func (.func 175) #[] #[.pointer (some ⟨b, 0, none⟩)], .func (.func 176) #[] #[.pointer (some ⟨b, 0, none⟩)], .func (.func 177) #[] #[.pointer (some ⟨b, 0, none⟩)]]) (.int .i64 4)).run Tryz.prog w = .ok (.func (.func 177) #[] #[.pointer (some ⟨b, 0, none⟩)]) w := fun w => by kernel_rfl
  refine wp_loop_rounds 6 ?_
  have O8 : Hid (Ok 506 s.opsHead) := Lib.hid HK.out.opsHead
  rw [rounds_succ]
  go_wp2_with fail
  refine (itoa_lit 0 0 rfl _ (by decide) (H8.out.tab.below H8.out.base)).mono ?_
  rintro e w9 ⟨rfl, hb⟩
  have H9 := Lib.hid (H8.out.later hb); have K9 : Hid (Kept w1 w9) := Lib.hid (K8.out.trans (.of_below hb)); have P9 := Lib.hid (P8.out.kept (.of_below hb))
  clear hb H8 K8 P8
  go_wp2_with fail
  have hc := c_jump (Pl3.notN 0) 8 H9.out (O8.out.mono (by omega))
  rw [show S (Pl3.notN 0) = _ from D0.out.symm] at hc
  refine hc.mono ?_
  rintro e w10 ⟨rfl, h, k9⟩
  have H10 := Lib.hid h; have K10 : Hid (Kept w1 w10) := Lib.hid (K9.out.trans k9); have P10 := Lib.hid (P9.out.kept k9)
  clear h k9 hc H9 K9 P9
  go_wp2_with fail
  refine (k_op1 P10.out H10.out ((O8.out.jumpTo _ _).mono (by omega))).mono ?_
  rintro e w11 ⟨rfl, h, k9⟩
  have H11 := Lib.hid h; have K11 : Hid (Kept w1 w11) := Lib.hid (K10.out.trans k9); have P11 := Lib.hid (P10.out.kept k9)
  clear h k9 H10 K10 P10
  go_wp2_with fail
  refine (c_jump [115, 116, 111, 114, 101] 10 H11.out ((Ok.op1 _ _ (O8.out.jumpTo _ _)).mono (by omega))).mono ?_
  rintro e w12 ⟨rfl, h, k9⟩
  have H12 := Lib.hid h; have K12 : Hid (Kept w1 w12) := Lib.hid (K11.out.trans k9); have P12 := Lib.hid (P11.out.kept k9)
  clear h k9 H11 K11 P11
  go_wp2_with fail
  have hc := c_place (Pl3.notN 0) (notN_len 0) H12.out (((Ok.op1 _ _ (O8.out.jumpTo _ _)).jumpTo _ _).mono (by omega))
  rw [show S (Pl3.notN 0) = _ from D0.out.symm] at hc
  refine hc.mono ?_
  rintro e w13 ⟨rfl, h, k9⟩
  have H13 := Lib.hid h; have K13 : Hid (Kept w1 w13) := Lib.hid (K12.out.trans k9); have P13 := Lib.hid (P12.out.kept k9)
  clear h k9 hc H12 K12 P12
  go_wp2_with fail
  refine (c_tail 8 8 H13.out ((((Ok.op1 _ _ (O8.out.jumpTo _ _)).jumpTo _ _).place _).mono (by omega))).mono ?_
  rintro e w14 ⟨rfl, h, k9⟩
  have H14 : Hid (PlanS w0 w14 X mb H (Pl3.opsStep 0 Pl3.op1 (s.opsHead))) := Lib.hid h; have K14 : Hid (Kept w1 w14) := Lib.hid (K13.out.trans k9); have P14 := Lib.hid (P13.out.kept k9)
  have O14 : Hid (Ok 511 (Pl3.opsStep 0 Pl3.op1 (s.opsHead))) := Lib.hid (O8.out.opsStep 0 Ok.op1)
  clear h k9 H13 K13 P13 O8
  go_wp2_with fail
  rw [rounds_succ]
  go_wp2_with fail
  refine (itoa_lit 1 1 rfl _ (by decide) (H14.out.tab.below H14.out.base)).mono ?_
  rintro e w15 ⟨rfl, hb⟩
  have H15 := Lib.hid (H14.out.later hb); have K15 : Hid (Kept w1 w15) := Lib.hid (K14.out.trans (.of_below hb)); have P15 := Lib.hid (P14.out.kept (.of_below hb))
  clear hb H14 K14 P14
  go_wp2_with fail
  have hc := c_jump (Pl3.notN 1) 8 H15.out (O14.out.mono (by omega))
  rw [show S (Pl3.notN 1) = _ from D1.out.symm] at hc
  refine hc.mono ?_
  rintro e w16 ⟨rfl, h, k9⟩
  have H16 := Lib.hid h; have K16 : Hid (Kept w1 w16) := Lib.hid (K15.out.trans k9); have P16 := Lib.hid (P15.out.kept k9)
  clear h k9 hc H15 K15 P15
  go_wp2_with fail
  refine (k_op2 P16.out H16.out ((O14.out.jumpTo _ _).mono (by omega))).mono ?_
  rintro e w17 ⟨rfl, h, k9⟩
  have H17 := Lib.hid h; have K17 : Hid (Kept w1 w17) := Lib.hid (K16.out.trans k9); have P17 := Lib.hid (P16.out.kept k9)
  clear h k9 H16 K16 P16
  go_wp2_with fail
  refine (c_jump [115, 116, 111, 114, 101] 10 H17.out ((Ok.op2 _ _ (O14.out.jumpTo _ _)).mono (by omega))).mono ?_
  rintro e w18 ⟨rfl, h, k9⟩
  have H18 := Lib.hid h; have K18 : Hid (Kept w1 w18) := Lib.hid (K17.out.trans k9); have P18 := Lib.hid (P17.out.kept k9)
  clear h k9 H17 K17 P17
  go_wp2_with fail
  have hc := c_place (Pl3.notN 1) (notN_len 1) H18.out (((Ok.op2 _ _ (O14.out.jumpTo _ _)).jumpTo _ _).mono (by omega))
  rw [show S (Pl3.notN 1) = _ from D1.out.symm] at hc
  refine hc.mono ?_
  rintro e w19 ⟨rfl, h, k9⟩
  have H19 := Lib.hid h; have K19 : Hid (Kept w1 w19) := Lib.hid (K18.out.trans k9); have P19 := Lib.hid (P18.out.kept k9)
  clear h k9 hc H18 K18 P18
  go_wp2_with fail
  refine (c_tail 8 8 H19.out ((((Ok.op2 _ _ (O14.out.jumpTo _ _)).jumpTo _ _).place _).mono (by omega))).mono ?_
  rintro e w20 ⟨rfl, h, k9⟩
  have H20 : Hid (PlanS w0 w20 X mb H (Pl3.opsStep 1 Pl3.op2 (Pl3.opsStep 0 Pl3.op1 (s.opsHead)))) := Lib.hid h; have K20 : Hid (Kept w1 w20) := Lib.hid (K19.out.trans k9); have P20 := Lib.hid (P19.out.kept k9)
  have O20 : Hid (Ok 523 (Pl3.opsStep 1 Pl3.op2 (Pl3.opsStep 0 Pl3.op1 (s.opsHead)))) := Lib.hid (O14.out.opsStep 1 Ok.op2)
  clear h k9 H19 K19 P19 O14
  go_wp2_with fail
  rw [rounds_succ]
  go_wp2_with fail
  refine (itoa_lit 2 2 rfl _ (by decide) (H20.out.tab.below H20.out.base)).mono ?_
  rintro e w21 ⟨rfl, hb⟩
  have H21 := Lib.hid (H20.out.later hb); have K21 : Hid (Kept w1 w21) := Lib.hid (K20.out.trans (.of_below hb)); have P21 := Lib.hid (P20.out.kept (.of_below hb))
  clear hb H20 K20 P20
  go_wp2_with fail
  have hc := c_jump (Pl3.notN 2) 8 H21.out (O20.out.mono (by omega))
  rw [show S (Pl3.notN 2) = _ from D2.out.symm] at hc
  refine hc.mono ?_
  rintro e w22 ⟨rfl, h, k9⟩
  have H22 := Lib.hid h; have K22 : Hid (Kept w1 w22) := Lib.hid (K21.out.trans k9); have P22 := Lib.hid (P21.out.kept k9)
  clear h k9 hc H21 K21 P21
  go_wp2_with fail
  refine (k_op3 P22.out H22.out ((O20.out.jumpTo _ _).mono (by omega))).mono ?_
  rintro e w23 ⟨rfl, h, k9⟩
  have H23 := Lib.hid h; have K23 : Hid (Kept w1 w23) := Lib.hid (K22.out.trans k9); have P23 := Lib.hid (P22.out.kept k9)
  clear h k9 H22 K22 P22
  go_wp2_with fail
  refine (c_jump [115, 116, 111, 114, 101] 10 H23.out ((Ok.op3 _ _ (O20.out.jumpTo _ _)).mono (by omega))).mono ?_
  rintro e w24 ⟨rfl, h, k9⟩
  have H24 := Lib.hid h; have K24 : Hid (Kept w1 w24) := Lib.hid (K23.out.trans k9); have P24 := Lib.hid (P23.out.kept k9)
  clear h k9 H23 K23 P23
  go_wp2_with fail
  have hc := c_place (Pl3.notN 2) (notN_len 2) H24.out (((Ok.op3 _ _ (O20.out.jumpTo _ _)).jumpTo _ _).mono (by omega))
  rw [show S (Pl3.notN 2) = _ from D2.out.symm] at hc
  refine hc.mono ?_
  rintro e w25 ⟨rfl, h, k9⟩
  have H25 := Lib.hid h; have K25 : Hid (Kept w1 w25) := Lib.hid (K24.out.trans k9); have P25 := Lib.hid (P24.out.kept k9)
  clear h k9 hc H24 K24 P24
  go_wp2_with fail
  refine (c_tail 8 8 H25.out ((((Ok.op3 _ _ (O20.out.jumpTo _ _)).jumpTo _ _).place _).mono (by omega))).mono ?_
  rintro e w26 ⟨rfl, h, k9⟩
  have H26 : Hid (PlanS w0 w26 X mb H (Pl3.opsStep 2 Pl3.op3 (Pl3.opsStep 1 Pl3.op2 (Pl3.opsStep 0 Pl3.op1 (s.opsHead))))) := Lib.hid h; have K26 : Hid (Kept w1 w26) := Lib.hid (K25.out.trans k9); have P26 := Lib.hid (P25.out.kept k9)
  have O26 : Hid (Ok 546 (Pl3.opsStep 2 Pl3.op3 (Pl3.opsStep 1 Pl3.op2 (Pl3.opsStep 0 Pl3.op1 (s.opsHead))))) := Lib.hid (O20.out.opsStep 2 Ok.op3)
  clear h k9 H25 K25 P25 O20
  go_wp2_with fail
  rw [rounds_succ]
  go_wp2_with fail
  refine (itoa_lit 3 3 rfl _ (by decide) (H26.out.tab.below H26.out.base)).mono ?_
  rintro e w27 ⟨rfl, hb⟩
  have H27 := Lib.hid (H26.out.later hb); have K27 : Hid (Kept w1 w27) := Lib.hid (K26.out.trans (.of_below hb)); have P27 := Lib.hid (P26.out.kept (.of_below hb))
  clear hb H26 K26 P26
  go_wp2_with fail
  have hc := c_jump (Pl3.notN 3) 8 H27.out (O26.out.mono (by omega))
  rw [show S (Pl3.notN 3) = _ from D3.out.symm] at hc
  refine hc.mono ?_
  rintro e w28 ⟨rfl, h, k9⟩
  have H28 := Lib.hid h; have K28 : Hid (Kept w1 w28) := Lib.hid (K27.out.trans k9); have P28 := Lib.hid (P27.out.kept k9)
  clear h k9 hc H27 K27 P27
  go_wp2_with fail
  refine (k_op4 P28.out H28.out ((O26.out.jumpTo _ _).mono (by omega))).mono ?_
  rintro e w29 ⟨rfl, h, k9⟩
  have H29 := Lib.hid h; have K29 : Hid (Kept w1 w29) := Lib.hid (K28.out.trans k9); have P29 := Lib.hid (P28.out.kept k9)
  clear h k9 H28 K28 P28
  go_wp2_with fail
  refine (c_jump [115, 116, 111, 114, 101] 10 H29.out ((Ok.op4 _ _ (O26.out.jumpTo _ _)).mono (by omega))).mono ?_
  rintro e w30 ⟨rfl, h, k9⟩
  have H30 := Lib.hid h; have K30 : Hid (Kept w1 w30) := Lib.hid (K29.out.trans k9); have P30 := Lib.hid (P29.out.kept k9)
  clear h k9 H29 K29 P29
  go_wp2_with fail
  have hc := c_place (Pl3.notN 3) (notN_len 3) H30.out (((Ok.op4 _ _ (O26.out.jumpTo _ _)).jumpTo _ _).mono (by omega))
  rw [show S (Pl3.notN 3) = _ from D3.out.symm] at hc
  refine hc.mono ?_
  rintro e w31 ⟨rfl, h, k9⟩
  have H31 := Lib.hid h; have K31 : Hid (Kept w1 w31) := Lib.hid (K30.out.trans k9); have P31 := Lib.hid (P30.out.kept k9)
  clear h k9 hc H30 K30 P30
  go_wp2_with fail
  refine (c_tail 8 8 H31.out ((((Ok.op4 _ _ (O26.out.jumpTo _ _)).jumpTo _ _).place _).mono (by omega))).mono ?_
  rintro e w32 ⟨rfl, h, k9⟩
  have H32 : Hid (PlanS w0 w32 X mb H (Pl3.opsStep 3 Pl3.op4 (Pl3.opsStep 2 Pl3.op3 (Pl3.opsStep 1 Pl3.op2 (Pl3.opsStep 0 Pl3.op1 (s.opsHead)))))) := Lib.hid h; have K32 : Hid (Kept w1 w32) := Lib.hid (K31.out.trans k9); have P32 := Lib.hid (P31.out.kept k9)
  have O32 : Hid (Ok 559 (Pl3.opsStep 3 Pl3.op4 (Pl3.opsStep 2 Pl3.op3 (Pl3.opsStep 1 Pl3.op2 (Pl3.opsStep 0 Pl3.op1 (s.opsHead)))))) := Lib.hid (O26.out.opsStep 3 Ok.op4)
  clear h k9 H31 K31 P31 O26
  go_wp2_with fail
  rw [rounds_succ]
  go_wp2_with fail
  refine (itoa_lit 4 4 rfl _ (by decide) (H32.out.tab.below H32.out.base)).mono ?_
  rintro e w33 ⟨rfl, hb⟩
  have H33 := Lib.hid (H32.out.later hb); have K33 : Hid (Kept w1 w33) := Lib.hid (K32.out.trans (.of_below hb)); have P33 := Lib.hid (P32.out.kept (.of_below hb))
  clear hb H32 K32 P32
  go_wp2_with fail
  have hc := c_jump (Pl3.notN 4) 8 H33.out (O32.out.mono (by omega))
  rw [show S (Pl3.notN 4) = _ from D4.out.symm] at hc
  refine hc.mono ?_
  rintro e w34 ⟨rfl, h, k9⟩
  have H34 := Lib.hid h; have K34 : Hid (Kept w1 w34) := Lib.hid (K33.out.trans k9); have P34 := Lib.hid (P33.out.kept k9)
  clear h k9 hc H33 K33 P33
  go_wp2_with fail
  refine (k_op5 P34.out H34.out ((O32.out.jumpTo _ _).mono (by omega))).mono ?_
  rintro e w35 ⟨rfl, h, k9⟩
  have H35 := Lib.hid h; have K35 : Hid (Kept w1 w35) := Lib.hid (K34.out.trans k9); have P35 := Lib.hid (P34.out.kept k9)
  clear h k9 H34 K34 P34
  go_wp2_with fail
  refine (c_jump [115, 116, 111, 114, 101] 10 H35.out ((Ok.op5 _ _ (O32.out.jumpTo _ _)).mono (by omega))).mono ?_
  rintro e w36 ⟨rfl, h, k9⟩
  have H36 := Lib.hid h; have K36 : Hid (Kept w1 w36) := Lib.hid (K35.out.trans k9); have P36 := Lib.hid (P35.out.kept k9)
  clear h k9 H35 K35 P35
  go_wp2_with fail
  have hc := c_place (Pl3.notN 4) (notN_len 4) H36.out (((Ok.op5 _ _ (O32.out.jumpTo _ _)).jumpTo _ _).mono (by omega))
  rw [show S (Pl3.notN 4) = _ from D4.out.symm] at hc
  refine hc.mono ?_
  rintro e w37 ⟨rfl, h, k9⟩
  have H37 := Lib.hid h; have K37 : Hid (Kept w1 w37) := Lib.hid (K36.out.trans k9); have P37 := Lib.hid (P36.out.kept k9)
  clear h k9 hc H36 K36 P36
  go_wp2_with fail
  refine (c_tail 8 8 H37.out ((((Ok.op5 _ _ (O32.out.jumpTo _ _)).jumpTo _ _).place _).mono (by omega))).mono ?_
  rintro e w38 ⟨rfl, h, k9⟩
  have H38 : Hid (PlanS w0 w38 X mb H (Pl3.opsStep 4 Pl3.op5 (Pl3.opsStep 3 Pl3.op4 (Pl3.opsStep 2 Pl3.op3 (Pl3.opsStep 1 Pl3.op2 (Pl3.opsStep 0 Pl3.op1 (s.opsHead))))))) := Lib.hid h; have K38 : Hid (Kept w1 w38) := Lib.hid (K37.out.trans k9); have P38 := Lib.hid (P37.out.kept k9)
  have O38 : Hid (Ok 572 (Pl3.opsStep 4 Pl3.op5 (Pl3.opsStep 3 Pl3.op4 (Pl3.opsStep 2 Pl3.op3 (Pl3.opsStep 1 Pl3.op2 (Pl3.opsStep 0 Pl3.op1 (s.opsHead))))))) := Lib.hid (O32.out.opsStep 4 Ok.op5)
  clear h k9 H37 K37 P37 O32
  go_wp2_with fail
  rw [rounds_succ]
  go_wp2
  go_end0
  exact ⟨rfl, H38.out, K38.out⟩
end Go.Proofs.YtmhoacnbmbhcjaaGreatDoor

namespace Go.Proofs.YtmhoacnbmbhcjaaGreatDoor
open Go.RowKit Go.Maps Pl

/-- the place with a name, as the map has it -/
def toOf (M : List (List UInt8 × Nat)) (n : List UInt8) : Int := match (placesD Unit M).atKey (.string n) (.lit (.int .i64 0)) with | .lit (.int _ c) => c | _ => 0
def setB (ps : List Ins) (k : Nat) (b : Int) : List Ins := match ps[k]? with | some x => ps.set k ⟨x.op, x.a, b, x.c, x.tree⟩ | none => ps
def finL (M : List (List UInt8 × Nat)) : List (Nat × List UInt8) → List Ins → List Ins
  | [], ps => ps
  | e :: L, ps => finL M L (setB ps e.1 (toOf M e.2 - (e.1 : Int)))
theorem setB_len (ps : List Ins) (k : Nat) (b : Int) : (setB ps k b).length = ps.length := by
  unfold setB; split <;> simp
theorem finL_len (M : List (List UInt8 × Nat)) : ∀ (L : List (Nat × List UInt8)) (ps : List Ins), (finL M L ps).length = ps.length
  | [], _ => rfl
  | e :: L, ps => by show (finL M L _).length = _; rw [finL_len M L, setB_len]
theorem finL_app (M : List (List UInt8 × Nat)) (e : Nat × List UInt8) : ∀ (L : List (Nat × List UInt8)) (ps : List Ins), finL M (L ++ [e]) ps = setB (finL M L ps) e.1 (toOf M e.2 - (e.1 : Int))
  | [], _ => rfl
  | a :: L, ps => by show finL M (L ++ [e]) _ = _; rw [finL_app M e L]; rfl
theorem progV_set (ps : List Ins) (k : Nat) (b : Int) (hk : k < ps.length) : progV (setB ps k b) = (progV ps).set (k * 5 + 2) (.int .i64 b) := by
  induction ps generalizing k with
  | nil => simp at hk
  | cons x ps ih =>
    cases k with
    | zero => rfl
    | succ k =>
      have hk2 : k < ps.length := by simpa using hk
      have e1 : setB (x :: ps) (k + 1) b = x :: setB ps k b := by
        unfold setB
        rw [List.getElem?_cons_succ, List.getElem?_eq_getElem hk2]; rfl
      rw [e1]
      show x.cells ++ progV (setB ps k b) = (x.cells ++ progV ps).set _ _
      rw [ih k hk2, List.set_append_right _ _ (by simp [Ins.cells]; omega)]
      congr 2
      simp [Ins.cells]; omega
theorem leap_get {L : List (Nat × List UInt8)} {k : Nat} {e : Nat × List UInt8} (h : L[k]? = some e) : (leapV L)[2 * k]? = some (.int .i64 (e.1 : Int)) ∧ (leapV L)[2 * k + 1]? = some (.string (S e.2)) := by
  induction L generalizing k with
  | nil => simp at h
  | cons a L ih =>
    cases k with
    | zero => simp only [List.getElem?_cons_zero, Option.some.injEq] at h; subst h; exact ⟨rfl, rfl⟩
    | succ k =>
      obtain ⟨h1, h2⟩ := ih (by simpa using h)
      show ([_, _] ++ leapV L)[_]? = _ ∧ ([_, _] ++ leapV L)[_]? = _
      rw [show 2 * (k + 1) = 2 * k + 2 from by omega, show 2 * k + 2 + 1 = (2 * k + 1) + 2 from by omega, List.getElem?_append_right (by simp), List.getElem?_append_right (by simp)]
      exact ⟨by simpa using h1, by simpa using h2⟩
theorem PlanAt.set {w : World} {X mb g cap k : Nat} {lv : Value} {H : Type} {ps : List Ins} {M : List (List UInt8 × Nat)} {L : List (Nat × List UInt8)} {b : Int} (h : PlanAt w X (.slice (some ⟨g, 0, none⟩) ps.length cap) lv mb H ps M L) (hk : k < ps.length) :
    PlanAt (w.setCell ⟨g, k * 5 + 2, none⟩ (.int .i64 b)) X (.slice (some ⟨g, 0, none⟩) ps.length cap) lv mb H (setB ps k b) M L := by
  have h1 := h.own.lt g rfl
  have h9 := h.mlt
  refine ⟨(Below.heap_setCell _ _ _ _ (by show X ≠ g; omega)).trans h.mem, ?_, ownsRow_setCell_other h.own2 (fun e => ?_) _, ownsMap_at h.map (Below.heap_setCell _ _ _ _ (by show mb ≠ g; omega)), h.mlt⟩
  · rw [progV_set ps k b hk, setB_len]
    exact (h.own.stored _ _).1
  · obtain ⟨c1, t1⟩ := row_type h.own2 e
    obtain ⟨c2, t2⟩ := row_type h.own (g := g) rfl
    simp only at t1
    rw [t1] at t2
    simp at t2
def FinOut (w0 : World) (X : Nat) (ps : List Ins) (e : Ending) (w' : World) : Prop := ∃ v, e = .returned v ∧ w'.ownsRow (X + 1) 64 5 v ps.length (progV ps) ∧ Below w0.heap.size w0 w'
set_option maxHeartbeats 3200000 in
set_option maxRecDepth 100000 in
theorem c_finish {w0 w1 : World} {X mb : Nat} {s : Pl3} (h : PlanS w0 w1 X mb Unit s) (hk : Ok 900 s) (h0 : 0 < s.L.length) (hL : ∀ e ∈ s.L, e.1 < s.ps.length ∧ 0 ≤ toOf s.M e.2 ∧ toOf s.M e.2 ≤ 5000 ∧ e.2.length ≤ 1000000) :
    Calls Tryz.prog 67 #[.pointer (some ⟨X, 0, none⟩)] w1 (FinOut w0 X (finL s.M s.L s.ps)) := by
  have hlow := h.lowX
  obtain ⟨v, lv, hp⟩ := h.plan
  obtain ⟨e0, he0⟩ : ∃ e, s.L[0]? = some e := ⟨_, List.getElem?_eq_getElem h0⟩
  obtain ⟨g, cap, rfl⟩ : ∃ g cap, v = .slice (some ⟨g, 0, none⟩) s.ps.length cap := by
    rcases hp.own.2 with ⟨_, h9⟩ | ⟨g, cap, _, e, _⟩
    · have := (hL e0 (List.mem_of_getElem? he0)).1; omega
    · exact ⟨g, cap, e⟩
  obtain ⟨g2, cap2, rfl⟩ : ∃ g cap, lv = .slice (some ⟨g, 0, none⟩) s.L.length cap := by
    rcases hp.own2.2 with ⟨_, h9⟩ | ⟨g, cap, _, e, _⟩
    · omega
    · exact ⟨g, cap, e⟩
  obtain ⟨ps, M, Ls⟩ := s
  simp only at hp h0 hL he0
  have c2 : w1.cell? ⟨X, 2, none⟩ = some (.slice (some ⟨g2, 0, none⟩) Ls.length cap2) := Lib.cell_of_heap hp.mem 2
  have HP := Lib.hid hp; have HB := Lib.hid h.base; have HLOW := Lib.hid hlow; have HL := Lib.hid hL
  have hkl : Ls.length ≤ 900 := hk.2.2
  have hkp : ps.length ≤ 900 := hk.1
  clear h hp hlow hL he0 hk e0
  generalize hm : Ls.length = m at *
  generalize hn : ps.length = n at *
  have HM := Lib.hid hm; have HN := Lib.hid hn
  clear hm hn
  go_enter Tryz.func67, Tryz.ntmps67
  go_wp2_with fail
  go_loopw [10] (fun i wr => ∃ k : Nat, k ≤ m ∧ i = .int .i64 k ∧ Hid (PlanAt wr X (.slice (some ⟨g, 0, none⟩) n cap) (.slice (some ⟨g2, 0, none⟩) m cap2) mb Unit (finL M (Ls.take k) ps) M Ls) ∧ Hid (Below w0.heap.size w0 wr)) (fun i _ => m - (intOf i).toNat)
  case atStart => exact ⟨0, Nat.zero_le _, rfl, Lib.hid (by rw [List.take_zero]; exact HP.out), HB⟩
  case round =>
    obtain ⟨k, hk, rfl, HW, HBW⟩ := hrel
    by_cases hlt : k < m
    · have hk1 : (k : Int) < (m : Int) := by omega
      have hk0 : (0 : Int) ≤ (k : Int) := by omega
      obtain ⟨⟨at_, nm⟩, he⟩ : ∃ e, Ls[k]? = some e := ⟨_, List.getElem?_eq_getElem (by rw [HM.out]; exact hlt)⟩
      obtain ⟨q1, q2, q3, q4⟩ := HL.out _ (List.mem_of_getElem? he)
      obtain ⟨y1, y2⟩ := leap_get he
      have ho2 := HW.out.own2
      rw [HM.out] at ho2
      have l0 : wr.cell? ⟨g2, k * 2, none⟩ = some (.int .i64 (at_ : Int)) := by rw [ho2.cellAt (k * 2) (by omega), Nat.mul_comm]; exact y1
      have l1 : wr.cell? ⟨g2, k * 2 + 1, none⟩ = some (.string (S nm)) := by rw [ho2.cellAt (k * 2 + 1) (by omega), Nat.mul_comm]; exact y2
      have hal := alloc_belowW wr (.cells #[.int .i64 (at_ : Int), .string (S nm)] 150)
      have hnew := heap_alloc_new wr (.cells #[.int .i64 (at_ : Int), .string (S nm)] 150)
      have HW2 := Lib.hid (HW.out.later hal); have HBW2 := Lib.hid (bstep HBW.out hal); have HNW := Lib.hid hnew
      clear hal hnew y1 y2 ho2
      go_wp2_with fail
      generalize wr.alloc (.cells #[.int .i64 (at_ : Int), .string (S nm)] 150) = wb at *
      generalize wr.heap.size = bx at *
      have hxs : (finL M (Ls.take k) ps).length = n := by rw [finL_len]; exact HN.out
      have HP2 := HW2.out
      obtain ⟨c, hrun, hat, _⟩ := HP2.map.drew.lookup_int strLaw Tryz.underlying75 Tryz.underlying3 (zeroInt _) (key := .string (S nm)) (kl := .string nm) (by have hk := Go.WideMaps.keyOf_string_mk (P := Tryz.prog) Tryz.underlying9 (s := S nm) (by rw [S_size]; unfold maxLen; omega); rw [S_list] at hk; exact hk)
      have hto : toOf M nm = c := by unfold toOf; rw [hat]
      have HTO := Lib.hid hto
      rw [hto] at q2 q3
      have b0 : wb.cell? ⟨bx, 0, none⟩ = some (.int .i64 (at_ : Int)) := Lib.cell_of_heap HNW.out 0
      have b1 : wb.cell? ⟨bx, 1, none⟩ = some (.string (S nm)) := Lib.cell_of_heap HNW.out 1
      have x0 : wb.cell? ⟨X, 0, none⟩ = some (.slice (some ⟨g, 0, none⟩) n cap) := Lib.cell_of_heap HP2.mem 0
      have x1 : wb.cell? ⟨X, 1, none⟩ = some (.map (some mb)) := Lib.cell_of_heap HP2.mem 1
      have hown := HP2.own
      rw [hxs] at hown
      obtain ⟨u, hu⟩ : ∃ u, (progV (finL M (Ls.take k) ps))[at_ * 5 + 2]? = some u := ⟨_, List.getElem?_eq_getElem (by rw [hown.1]; omega)⟩
      have s0 : wb.cell? ⟨g, at_ * 5 + 2, none⟩ = some u := by rw [hown.cellAt (at_ * 5 + 2) (by omega)]; exact hu
      have s1 : wb.frozen? ⟨g, at_ * 5 + 2, none⟩ = false := hown.frozenAt _
      have ha0 : (0 : Int) ≤ (at_ : Int) := by omega
      have ha1 : (at_ : Int) < (n : Int) := by omega
      have ha2 : (at_ : Int) ≤ 900 := by omega
      have HHE := Lib.hid he; have HXS := Lib.hid hxs; have HQ1 := Lib.hid q1
      clear hto hat HP2 hown hu hxs he q1 l0 l1 HW HBW HNW q4
      go_still_tail 17, (by kernel_rfl)
      change wpList _ _ _ _ _ wb.drew
      go_wp2
      have h9 : PlanAt wb X (.slice (some ⟨g, 0, none⟩) (finL M (Ls.take k) ps).length cap) (.slice (some ⟨g2, 0, none⟩) m cap2) mb Unit (finL M (Ls.take k) ps) M Ls := by rw [HXS.out]; exact HW2.out
      have h10 := h9.set (k := at_) (b := c - (at_ : Int)) (by rw [HXS.out]; exact HQ1.out)
      have htk : Ls.take (k + 1) = Ls.take k ++ [(at_, nm)] := by
        obtain ⟨hl9, he9⟩ := List.getElem?_eq_some_iff.1 HHE.out
        rw [List.take_succ_eq_append_getElem hl9, he9]
      have hfin : finL M (Ls.take (k + 1)) ps = setB (finL M (Ls.take k) ps) at_ (c - (at_ : Int)) := by rw [htk, finL_app, HTO.out]
      rw [HXS.out, ← hfin] at h10
      have hg1 := (HW2.out.own.lt g rfl).1
      refine ⟨⟨k + 1, by omega, by go_num, Lib.hid (h10.later (Below.refl _ _).drew), Lib.hid (HBW2.out.setCell (p := ⟨g, at_ * 5 + 2, none⟩) (by have := HLOW.out; show _ ≤ g; omega) _).drew⟩, by simp [intOf]; omega⟩
    · obtain rfl : k = m := by omega
      have cX : wr.cell? ⟨X, 0, none⟩ = some (.slice (some ⟨g, 0, none⟩) n cap) := Lib.cell_of_heap HW.out.mem 0
      have HOWN := Lib.hid HW.out.own
      have HTK : Hid (Ls.take k = Ls) := Lib.hid (List.take_of_length_le (by rw [HM.out]; exact Nat.le_refl _))
      rw [HTK.out] at HOWN
      go_wp2
      go_ret
      exact ⟨_, rfl, by have h9 := HOWN.out; rw [finL_len, HN.out] at h9 ⊢; exact h9, HBW.out⟩
end Go.Proofs.YtmhoacnbmbhcjaaGreatDoor

namespace Go.Proofs.YtmhoacnbmbhcjaaGreatDoor
open Go.RowKit Go.Maps Pl

def Pl3.nil : Pl3 := ⟨[], [], []⟩
def totalS : Pl3 := Pl3.nil.start.operations.jump.store.next
theorem total_is : finL totalS.M totalS.L totalS.ps = univL := by kernel_rfl
theorem total_len : 0 < totalS.L.length := by
  have h : decide (0 < totalS.L.length) = true := by kernel_rfl
  exact of_decide_eq_true h
def okL (s : Pl3) : Bool := s.L.all fun e => decide (e.1 < s.ps.length) && decide (0 ≤ toOf s.M e.2) && decide (toOf s.M e.2 ≤ 5000) && decide (e.2.length ≤ 1000000)
theorem total_ok : okL totalS = true := by kernel_rfl
theorem total_all : ∀ e ∈ totalS.L, e.1 < totalS.ps.length ∧ 0 ≤ toOf totalS.M e.2 ∧ toOf totalS.M e.2 ≤ 5000 ∧ e.2.length ≤ 1000000 := by
  intro e he
  have h := List.all_eq_true.1 total_ok e he
  simp only [Bool.and_eq_true, decide_eq_true_eq] at h
  exact ⟨h.1.1.1, h.1.1.2, h.1.2, h.2⟩
theorem Ok.start {n : Nat} {s : Pl3} (h : Ok n s) : Ok (n + 5) s.start := ((((h.wr _).wr _).wr _).wr _).jumpTo _ _
theorem Ok.operations {n : Nat} {s : Pl3} (h : Ok n s) : Ok (n + 72) s.operations := (((((h.opsHead.opsStep 0 Ok.op1).opsStep 1 Ok.op2).opsStep 2 Ok.op3).opsStep 3 Ok.op4).opsStep 4 Ok.op5).mono (by omega)
theorem Ok.jump {n : Nat} {s : Pl3} (h : Ok n s) : Ok (n + 40) s.jump := (((((((((((h.read 3 4).jumpTo _ _).jumpTo _ _).place _).wr _).wr _).jumpTo _ _).rep 1 Ok.jumpB1).jumpTo _ _).place _).rep 1 Ok.jumpB2).jumpTo _ _ |>.mono (by omega)
theorem Ok.store {n : Nat} {s : Pl3} (h : Ok n s) : Ok (n + 30) s.store := ((((h.place _).rep 4 Ok.storeB1).wr _).wr _).rep 6 Ok.storeB2 |>.mono (by omega)
theorem Ok.next {n : Nat} {s : Pl3} (h : Ok n s) : Ok (n + 10) s.next := ((((h.place _).shift 7 5).place _).jumpTo _ _).wr _ |>.mono (by omega)
def UOut (w : World) (e : Ending) (w' : World) : Prop := ∃ g cap, e = .returned (.slice (some ⟨g, 0, none⟩) 104 cap) ∧ w'.ownsRow w.heap.size 64 5 (.slice (some ⟨g, 0, none⟩) 104 cap) 104 (progV univL) ∧ Below w.heap.size w w'
set_option maxHeartbeats 3200000 in
set_option maxRecDepth 100000 in
theorem Universal_any (w : World) (hE : TabE w) : Calls Tryz.prog 23 #[] w (UOut w) := by
  have hmm := @run_makeMap Tryz.prog
  have b1 := alloc_belowW w (.map #[] 0)
  have b2 := alloc_belowW (w.alloc (.map #[] 0)) (.cells #[.slice none 0 0, .map (some w.heap.size), .slice none 0 0] 80)
  have h0 : PlanS w ((w.alloc (.map #[] 0)).alloc (.cells #[.slice none 0 0, .map (some w.heap.size), .slice none 0 0] 80)) (w.heap.size + 1) w.heap.size Unit Pl3.nil := by
    refine ⟨⟨.slice none 0 0, .slice none 0 0, ?_, World.ownsRow_nil _ _ _ _, World.ownsRow_nil _ _ _ _, ?_, Nat.lt_succ_self _⟩, bstep b1 b2, Nat.le_refl _, hE⟩
    · have e := heap_alloc_new (w.alloc (.map #[] 0)) (.cells #[.slice none 0 0, .map (some w.heap.size), .slice none 0 0] 80)
      simpa using e
    · exact (World.ownsMap_made w Tryz.prog 9 (plainElem Tryz.prog 3)).alloc _
  have H0 := Lib.hid h0
  have o0 : Ok 0 Pl3.nil := ⟨Nat.le_refl _, Nat.le_refl _, Nat.le_refl _⟩
  have O0 := Lib.hid o0
  clear h0 o0 b1 b2 hE
  go_enter Tryz.func23, Tryz.ntmps23
  go_wp2_with fail
  generalize ((w.alloc (.map #[] 0)).alloc (.cells #[.slice none 0 0, .map (some w.heap.size), .slice none 0 0] 80)) = w1 at *
  refine (c_startW H0.out (O0.out.mono (by omega))).mono ?_
  rintro e w2 ⟨rfl, h, _⟩
  have H2 := Lib.hid h
  clear h H0
  go_wp2_with fail
  refine (c_operationsW H2.out (O0.out.start.mono (by omega))).mono ?_
  rintro e w3 ⟨rfl, h, _⟩
  have H3 := Lib.hid h
  clear h H2
  go_wp2_with fail
  refine (c_jumpW H3.out (O0.out.start.operations.mono (by omega))).mono ?_
  rintro e w4 ⟨rfl, h, _⟩
  have H4 := Lib.hid h
  clear h H3
  go_wp2_with fail
  refine (c_storeW H4.out (O0.out.start.operations.jump.mono (by omega))).mono ?_
  rintro e w5 ⟨rfl, h, _⟩
  have H5 := Lib.hid h
  clear h H4
  go_wp2_with fail
  refine (c_nextW H5.out (O0.out.start.operations.jump.store.mono (by omega))).mono ?_
  rintro e w6 ⟨rfl, h, _⟩
  have H6 : Hid (PlanS w w6 (w.heap.size + 1) w.heap.size Unit totalS) := Lib.hid h
  clear h H5
  go_wp2_with fail
  refine (c_finish H6.out (O0.out.start.operations.jump.store.next.mono (by omega)) total_len total_all).mono ?_
  rintro e w7 ⟨v, rfl, ho, hb⟩
  rw [total_is] at ho
  obtain ⟨g, cap, cur, rfl, hg1, hg2⟩ : ∃ g cap cur, v = .slice (some ⟨g, 0, none⟩) 104 cap ∧ w.heap.size + 1 + 1 ≤ g ∧ _ := by
    rcases ho.2 with ⟨_, h9⟩ | ⟨g, cap, cur, e, h1, h2⟩
    · exact absurd h9 (by decide)
    · exact ⟨g, cap, cur, e, h1, h2⟩
  have ho2 : w7.ownsRow w.heap.size 64 5 (.slice (some ⟨g, 0, none⟩) 104 cap) 104 (progV univL) := ⟨ho.1, .inr ⟨g, cap, cur, rfl, by omega, hg2⟩⟩
  have HO := Lib.hid ho2; have HB := Lib.hid hb
  clear ho ho2 hb hg1 hg2
  go_wp2_with fail
  go_ret
  exact ⟨_, _, rfl, HO.out, HB.out⟩
end Go.Proofs.YtmhoacnbmbhcjaaGreatDoor
