/- The plan of package univ in memory, and what its methods do. By an AI agent. -/
import Derived.Test.YtkpfocgcnehajabGreatDoorSp5
import Derived.Test.YtkpfocgcnehajabGreatDoorWr
import Derived.Maps.Own
import Derived.Maps.OwnOps
import Derived.StillTailTactics
import Derived.BigRegion
namespace Go.Proofs.YtkpfocgcnehajabGreatDoor
open Go.RowKit Go.Maps Pl

/-- a writer that is a plan's first field -/
structure WpAt (m1 m2 : Value) (w : World) (X B : Nat) (v : Value) (ps : List Ins) : Prop where
  mem : w.heap[X]? = some (.cells #[v, m1, m2] 138 (0, 0))
  own : w.ownsRow B 43 5 v ps.length (progV ps)
  lt : X < B
  le : B ≤ w.heap.size
theorem padd_close {w wr w2 w3 : World} {X B k M gg cap1 L : Nat} {m1 m2 v0 v : Value} {ps qs : List Ins} {x : Ins} {ob : Obj} (hL : (ps ++ qs.take k).length = L) (HW : WpAt m1 m2 wr X B v (ps ++ qs.take k)) (hx : qs[k]? = some x) (hM : wr.heap.size = M) (HV : v.ownBlock = v0.ownBlock ∨ ∀ g, v.ownBlock = some g → w.heap.size ≤ g) (HF : Far X v0 w wr) (HB : Below M wr w2)
    (ho : w3.ownsRow B 43 5 (.slice (some ⟨gg, 0, none⟩) (L + 1) cap1) (L + 1) (progV (ps ++ qs.take k) ++ x.cells)) (hg : (w2.drew.alloc ob).grownBy w3 v.ownBlock) (hat : v.ownBlock = some gg ∨ gg = w2.heap.size + 1) :
    WpAt m1 m2 (w3.setCell ⟨X, 0, none⟩ (.slice (some ⟨gg, 0, none⟩) (L + 1) cap1)) X B (.slice (some ⟨gg, 0, none⟩) (L + 1) cap1) (ps ++ qs.take (k + 1)) ∧
    ((Value.slice (some ⟨gg, 0, none⟩) (L + 1) cap1).ownBlock = v0.ownBlock ∨ ∀ g, (Value.slice (some ⟨gg, 0, none⟩) (L + 1) cap1).ownBlock = some g → w.heap.size ≤ g) ∧
    Far X v0 w (w3.setCell ⟨X, 0, none⟩ (.slice (some ⟨gg, 0, none⟩) (L + 1) cap1)) := by
  subst hM
  have hXlt : X < wr.heap.size := (Array.getElem?_eq_some_iff.1 HW.mem).1
  have hs2 := HB.size
  have hs3 := hg.size
  have hs5 : (w2.drew.alloc ob).heap.size = w2.heap.size + 1 := by simp
  rw [hs5] at hs3
  have hne : some X ≠ v.ownBlock := fun e => by have := (HW.own.lt X e.symm).1; have := HW.lt; omega
  have hblk : ∀ k, k < wr.heap.size → some k ≠ v.ownBlock → w3.heap[k]? = wr.heap[k]? := fun j hj hr => by
    rw [hg.block j (by simp; omega) hr, Lib.alloc_old _ _ _ (by simp; omega)]
    exact HB.block j hj
  have hX3 : w3.heap[X]? = some (.cells #[v, m1, m2] 138 (0, 0)) := (hblk X hXlt hne).trans HW.mem
  generalize hnv : Value.slice (some ⟨gg, 0, none⟩) (L + 1) cap1 = nv at *
  have hgb : nv.ownBlock = some gg := by rw [← hnv]; rfl
  have hle := HW.le
  refine ⟨⟨?_, ?_, HW.lt, ?_⟩, ?_, ⟨?_, ?_, ?_, ?_, fun j hj h1 h2 => ?_⟩⟩
  · exact Lib.heap_setCell_same (i := 0) hX3 nv
  · rw [take_one hx, ← List.append_assoc, List.length_append, hL, progV_app, progV_one]
    exact ownsRow_setCell_below ho (a := ⟨X, 0, none⟩) HW.lt nv
  · simp; omega
  · rcases hat with h | h
    · rw [hgb, ← h]; exact HV
    · right; intro g hg'; rw [hgb] at hg'; cases hg'; have := HF.size; omega
  · exact (hg.os.trans HB.os).trans HF.os
  · exact (hg.tape.trans HB.tape).trans HF.tape
  · exact (hg.output.trans HB.output).trans HF.output
  · have := HF.size; simp; omega
  · rw [Below.heap_setCell _ _ _ _ h1]
    refine (hblk j (by have := HF.size; omega) fun e => ?_).trans (HF.block j hj h1 h2)
    rcases HV with h | h
    · exact h2 (e.trans h)
    · have := h j e.symm; omega
set_option maxHeartbeats 1600000 in
set_option maxRecDepth 100000 in
theorem padd_some (w : World) (X B b off cap n : Nat) (m1 m2 v0 : Value) (ps qs : List Ins) (h : WpAt m1 m2 w X B v0 ps) (hc : ProgAt w b off qs) (hq : qs.length = n) (hbX : b ≠ X) (hbv : v0.ownBlock ≠ some b) (hn : (ps.length + n) * 48 ≤ 140737488355328) (hz : ∀ x ∈ qs, x.tree.length ≤ 281474976710656) :
    Calls Tryz.prog 56 #[.pointer (some ⟨X, 0, none⟩), .slice (some ⟨b, off, none⟩) n cap] w fun e w' => e = .returned (.tuple #[]) ∧ ∃ v', WpAt m1 m2 w' X B v' (ps ++ qs) ∧ Far X v0 w w' ∧ (v'.ownBlock = v0.ownBlock ∨ ∀ g, v'.ownBlock = some g → w.heap.size ≤ g) := by
  obtain ⟨i0, hi, hz0, hz1, hz2⟩ := info_parts Tryz.infoIns
  have HC := Lib.hid hc; have HQ := Lib.hid hq; have HBX := Lib.hid hbX; have HBV := Lib.hid hbv; have HZ := Lib.hid hz; have H0 := Lib.hid h
  have hn2 : n ≤ 281474976710656 := by omega
  clear h hc hq hbX hbv hz
  go_enter Tryz.func56, Tryz.ntmps56
  go_wp2
  go_loopw [8] (fun i wr => ∃ (k : Nat) (v : Value), k ≤ n ∧ i = .int .i64 k ∧ Hid (WpAt m1 m2 wr X B v (ps ++ qs.take k)) ∧ Hid (v.ownBlock = v0.ownBlock ∨ ∀ g, v.ownBlock = some g → w.heap.size ≤ g) ∧ Hid (Far X v0 w wr)) (fun i _ => n - (intOf i).toNat)
  case atStart => exact ⟨0, v0, Nat.zero_le _, rfl, Lib.hid (by simpa using H0.out), Lib.hid (.inl rfl), Lib.hid (Far.refl _ _ _)⟩
  case round =>
    obtain ⟨k, v, hk, rfl, HW, HV, HF⟩ := hrel
    by_cases hlt : k < n
    · have hk1 : (k : Int) < (n : Int) := by omega
      obtain ⟨x, hx⟩ := get_at (ps := qs) (k := k) (by rw [HQ.out]; exact hlt)
      obtain ⟨a0, a1, a2, a3, a4⟩ := (HF.out.prog HC.out HBX.out HBV.out).2 k x hx
      have hcl : x.tree.length ≤ 281474976710656 := HZ.out x (List.mem_of_getElem? hx)
      have HX := Lib.hid hx
      have HLEN : Hid (((ps ++ qs.take k).length + 1) * 48 ≤ 140737488355328) := Lib.hid (by rw [List.length_append, List.length_take]; omega)
      generalize hL : (ps ++ qs.take k).length = L at *
      have HL := Lib.hid hL
      clear hL
      obtain ⟨op, a, b1, c, t⟩ := x
      simp only at a0 a1 a2 a3 a4 hcl
      clear hx
      have cX : wr.cell? ⟨X, 0, none⟩ = some v := Lib.cell_of_heap HW.out.mem 0
      have HB0 := Lib.hid (alloc_belowW wr (.cells #[.int .i64 op, .int .i64 a, .int .i64 b1, .int .i64 c, .string (S t)] 43))
      have HM0 := Lib.hid (heap_alloc_new wr (.cells #[.int .i64 op, .int .i64 a, .int .i64 b1, .int .i64 c, .string (S t)] 43))
      go_wp2_with fail
      refine (Clone_any _ _ (by rw [S_size]; exact hcl)).mono ?_
      rintro e w1 ⟨rfl, hb1⟩
      have HB1 := Lib.hid (bstep HB0.out hb1)
      have hm1 : w1.heap[wr.heap.size]? = some (.cells #[.int .i64 op, .int .i64 a, .int .i64 b1, .int .i64 c, .string (S t)] 43 (0, 0)) := (hb1.block wr.heap.size (by simp)).trans HM0.out
      have hX1 : w1.heap[X]? = some (.cells #[v, m1, m2] 138 (0, 0)) := (HB1.out.block X (by have := HW.out.lt; have := HW.out.le; omega)).trans HW.out.mem
      generalize hM : wr.heap.size = M at *
      have HO1 := Lib.hid (own_below' HW.out.own (by rw [hM]; exact HB1.out))
      have HX1 := Lib.hid hX1; have HM1 := Lib.hid hm1
      have HMB : Hid (B ≤ M) := Lib.hid (by rw [← hM]; exact HW.out.le)
      have HM := Lib.hid hM
      have m4 : w1.cell? ⟨M, 4, none⟩ = some (.string (S t)) := Lib.cell_of_heap hm1 4
      have f4 : w1.frozen? ⟨M, 4, none⟩ = false := by simp [World.frozen?, hm1]
      have HMX : Hid (M ≠ X) := Lib.hid (by have := HW.out.lt; have := HMB.out; omega)
      clear hb1 hm1 hX1 hM a0 a1 a2 a3 a4 cX
      go_wp2_with fail
      have hm2 : (w1.setCell ⟨M, 4, none⟩ (.string (S t))).heap[M]? = some (.cells #[.int .i64 op, .int .i64 a, .int .i64 b1, .int .i64 c, .string (S t)] 43 (0, 0)) := by
        have h9 := Lib.heap_setCell_same (i := 4) HM1.out (.string (S t))
        simpa using h9
      have hX2 : (w1.setCell ⟨M, 4, none⟩ (.string (S t))).heap[X]? = some (.cells #[v, m1, m2] 138 (0, 0)) := by
        rw [Below.heap_setCell _ _ _ _ (fun e => HMX.out e.symm)]; exact HX1.out
      have HB2 : Hid (Below M wr (w1.setCell ⟨M, 4, none⟩ (.string (S t)))) := Lib.hid (by
        have h9 := HB1.out
        exact h9.setCell (p := ⟨M, 4, none⟩) (Nat.le_refl M) _)
      have hlt2 : M < (w1.setCell ⟨M, 4, none⟩ (.string (S t))).heap.size := (Array.getElem?_eq_some_iff.1 hm2).1
      clear m4 f4
      generalize w1.setCell ⟨M, 4, none⟩ (.string (S t)) = w2 at *
      have HO2 := Lib.hid (own_below' HW.out.own (by rw [HM.out]; exact HB2.out))
      rw [HL.out] at HO2
      have HM2 := Lib.hid hm2; have HX2 := Lib.hid hX2; have HL2 := Lib.hid hlt2
      have b0 : w2.cell? ⟨M, 0, none⟩ = some (.int .i64 op) := Lib.cell_of_heap hm2 0
      have b2 : w2.cell? ⟨M, 1, none⟩ = some (.int .i64 a) := Lib.cell_of_heap hm2 1
      have b3 : w2.cell? ⟨M, 2, none⟩ = some (.int .i64 b1) := Lib.cell_of_heap hm2 2
      have b4 : w2.cell? ⟨M, 3, none⟩ = some (.int .i64 c) := Lib.cell_of_heap hm2 3
      have b5 : w2.cell? ⟨M, 4, none⟩ = some (.string (S t)) := Lib.cell_of_heap hm2 4
      have cX : w2.cell? ⟨X, 0, none⟩ = some v := Lib.cell_of_heap hX2 0
      have cXa : (w2.alloc (.cells #[.int .i64 op, .int .i64 a, .int .i64 b1, .int .i64 c, .string (S t)] 43)).cell? ⟨X, 0, none⟩ = some v := cell_keep (alloc_belowW _ _) cX
      have fX : w2.frozen? ⟨X, 0, none⟩ = false := by simp [World.frozen?, hX2]
      have HNE : Hid (some X ≠ v.ownBlock) := Lib.hid fun e => by have := (HO2.out.lt X e.symm).1; have := HW.out.lt; omega
      have HXA := Lib.hid cXa
      have HFA : Hid ((w2.drew.alloc (.cells #[.int .i64 op, .int .i64 a, .int .i64 b1, .int .i64 c, .string (S t)] 43)).frozen? ⟨X, 0, none⟩ = false) := Lib.hid (((alloc_belowW w2.drew _).frozen (p := ⟨X, 0, none⟩) (cell_lt cX)).trans fX)
      clear hm2 hX2 hlt2
      go_region_law (refine step_append_lies _ (by rfl) _ _ _ (by rfl) B 43 i0 _ 5 48 Tryz.underlying23 hi hz0 hz1 hz2 rfl (by omega) _ _ _ (by rfl) (HO2.out.drew.alloc _) ⟨w2.heap.size, 0, none⟩ 1 1 [.int .i64 op, .int .i64 a, .int .i64 b1, .int .i64 c, .string (S t)] (by rfl) (by rfl) (World.news_of_block (cs := #[.int .i64 op, .int .i64 a, .int .i64 b1, .int .i64 c, .string (S t)]) (t := 43) (fr := (0, 0)) (heap_alloc_new w2.drew _)) (by simp [Value.oneCell']) (by omega) (by have := HLEN.out; unfold maxLen; omega) (by have := HLEN.out; omega) (by have := HW.out.le; have := HB2.out.size; simp; omega) (w2.heap.size + 1) (by simp) ?_; intro gg cap1 w3 hown3 hgrow3 hat hlt1; have j1 := hgrow3.cell (a := ⟨X, 0, none⟩) HXA.out HNE.out; have j2 := (hgrow3.frozen_far ⟨X, 0, none⟩ (cell_lt HXA.out) HNE.out).trans HFA.out)
      all_goals
        have hfin := Lib.hid (padd_close HL.out HW.out HX.out HM.out HV.out HF.out HB2.out hown3 hgrow3 hat)
        clear j1 j2 hown3 hgrow3 hat hlt1 b0 b2 b3 b4 b5 cX cXa fX
        go_wp2_with fail
        go_roundw
        case rel => exact ⟨k + 1, _, by omega, by go_num, Lib.hid hfin.out.1, Lib.hid hfin.out.2.1, Lib.hid hfin.out.2.2⟩
        case measure => simp [intOf]; omega
    · obtain rfl : k = n := by omega
      have HE : Hid (ps ++ qs.take k = ps ++ qs) := Lib.hid (by rw [List.take_of_length_le (by rw [HQ.out]; exact Nat.le_refl _)])
      rw [HE.out] at HW
      go_wp2_with fail
      go_end0
      exact ⟨rfl, _, HW.out, HF.out, HV.out⟩
theorem Tryz.infoLeap : (Tryz.prog.info? 194).map (fun i => (i.zero, i.size, i.bytes)) = some (some (.agg #[.int .i64 0, .string ⟨#[]⟩]), 2, 24) := by kernel_rfl
theorem strLaw : Keyed Tryz.prog 9 := string_keyed Tryz.underlying9
theorem zeroInt (w : World) : (zeroValue 3).run Tryz.prog w = .ok (.int .i64 0) w := by kernel_rfl
/-- the places, as the map reads: what was put last stands first -/
def placesD (H : Type) (M : List (List UInt8 × Nat)) : DataW H := M.foldr (fun e D => D.put (.string e.1) (.lit (.int .i64 (e.2 : Int)))) (.map [])
def leapV (L : List (Nat × List UInt8)) : List Value := L.flatMap fun e => [.int .i64 (e.1 : Int), .string (S e.2)]
/-- what of memory stays: the boxes of what closures keep -/
def Kept (w w' : World) : Prop := ∀ (k : Nat) (o : Array Value) (ty : TypeId) (fr : Nat × Nat), w.heap[k]? = some (Obj.cells o ty fr) → ty = 140 ∨ ty = 3 → w'.heap[k]? = w.heap[k]?
/-- what a call does to memory: below N nothing, and the boxes stay -/
structure Eff (N : Nat) (w w' : World) : Prop where
  below : Below N w w'
  kept : Kept w w'
theorem Eff.refl (N : Nat) (w : World) : Eff N w w := ⟨Below.refl _ _, fun _ _ _ _ _ _ => rfl⟩
theorem Eff.trans {N : Nat} {a b c : World} (h : Eff N a b) (k : Eff N b c) : Eff N a c :=
  ⟨h.below.trans k.below, fun q o ty fr hq ht => by
    have h1 := h.kept q o ty fr hq ht
    exact (k.kept q o ty fr (h1.trans hq) ht).trans h1⟩
theorem Eff.of_below {N : Nat} {w w' : World} (hN : N ≤ w.heap.size) (h : Below w.heap.size w w') : Eff N w w' :=
  ⟨⟨h.os, h.tape, h.output, h.size, fun k hk => h.block k (by omega)⟩, fun k o ty fr hk _ => h.block k (Array.getElem?_eq_some_iff.1 hk).1⟩
/-- the plan: where it lies, the instructions, the places, the jumps -/
structure PlanAt (w : World) (X : Nat) (v lv : Value) (mb : Nat) (H : Type) (ps : List Ins) (M : List (List UInt8 × Nat)) (L : List (Nat × List UInt8)) : Prop where
  mem : w.heap[X]? = some (.cells #[v, .map (some mb), lv] 138 (0, 0))
  own : w.ownsRow (X + 1) 43 5 v ps.length (progV ps)
  own2 : w.ownsRow (X + 1) 194 2 lv L.length (leapV L)
  map : w.ownsMap (H := H) Tryz.prog 9 (plainElem Tryz.prog 3) mb M.length (placesD H M)
  mlt : mb < X
def PlanIs (w : World) (X mb : Nat) (H : Type) (ps : List Ins) (M : List (List UInt8 × Nat)) (L : List (Nat × List UInt8)) : Prop := ∃ v lv, PlanAt w X v lv mb H ps M L
theorem ownsRow_at {w w' : World} {B n k : Nat} {e : TypeId} {v : Value} {xs : List Value} (h : w.ownsRow B e k v n xs) (hb : ∀ g, v.ownBlock = some g → w'.heap[g]? = w.heap[g]?) : w'.ownsRow B e k v n xs := by
  refine ⟨h.1, ?_⟩
  rcases h.2 with h | ⟨g, cap, cur, rfl, h1, h2, h3⟩
  · exact .inl h
  · exact .inr ⟨g, cap, cur, rfl, h1, (hb g rfl).trans h2, h3⟩
theorem ownsMap_at {H : Type} {w w' : World} {P : Program} {k : TypeId} {R : Value → Option (DataW H × List MemPlace)} {b n : Nat} {D : DataW H} (h : w.ownsMap P k R b n D) (hb : w'.heap[b]? = w.heap[b]?) : w'.ownsMap P k R b n D := by
  obtain ⟨es, clock, h1, h2⟩ := h
  exact ⟨es, clock, hb.trans h1, h2⟩
theorem row_type {w : World} {B n k g : Nat} {e : TypeId} {v : Value} {xs : List Value} (h : w.ownsRow B e k v n xs) (hg : v.ownBlock = some g) : ∃ cur, w.heap[g]? = some (.cells cur e (0, 0)) := by
  rcases h.2 with ⟨rfl, _⟩ | ⟨g', cap, cur, rfl, h1, h2, _⟩
  · cases hg
  · cases hg; exact ⟨cur, h2⟩
theorem PlanAt.later {w w' : World} {X mb : Nat} {v lv : Value} {H : Type} {ps : List Ins} {M : List (List UInt8 × Nat)} {L : List (Nat × List UInt8)} (h : PlanAt w X v lv mb H ps M L) (hb : Below w.heap.size w w') : PlanAt w' X v lv mb H ps M L :=
  ⟨(hb.block X (Array.getElem?_eq_some_iff.1 h.mem).1).trans h.mem, own_below' h.own hb, own_below' h.own2 hb, ownsMap_at h.map (hb.block mb h.map.lt), h.mlt⟩
theorem PlanAt.wr {w : World} {X mb : Nat} {v lv : Value} {H : Type} {ps : List Ins} {M : List (List UInt8 × Nat)} {L : List (Nat × List UInt8)} (h : PlanAt w X v lv mb H ps M L) : WpAt (.map (some mb)) lv w X (X + 1) v ps :=
  ⟨h.mem, h.own, Nat.lt_succ_self _, (Array.getElem?_eq_some_iff.1 h.mem).1⟩
/-- one instruction more -/
theorem PlanAt.wrote {w w' : World} {X mb : Nat} {v v' lv : Value} {H : Type} {ps qs : List Ins} {M : List (List UInt8 × Nat)} {L : List (Nat × List UInt8)} (h : PlanAt w X v lv mb H ps M L) (hw : WpAt (.map (some mb)) lv w' X (X + 1) v' qs) (hf : Far X v w w') : PlanAt w' X v' lv mb H qs M L := by
  refine ⟨hw.mem, hw.own, ownsRow_at h.own2 fun g hg => ?_, ownsMap_at h.map (hf.block mb h.map.lt (by have := h.mlt; omega) fun e => ?_), h.mlt⟩
  · obtain ⟨c1, t1⟩ := row_type h.own2 hg
    have h1 := h.own2.lt g hg
    refine hf.block g h1.2 (by omega) fun e => ?_
    obtain ⟨c2, t2⟩ := row_type h.own e.symm
    rw [t1] at t2
    simp at t2
  · have := (h.own.lt mb e.symm).1; have := h.mlt; omega
theorem PlanAt.eff {w w' : World} {N X mb : Nat} {v lv : Value} {H : Type} {ps : List Ins} {M : List (List UInt8 × Nat)} {L : List (Nat × List UInt8)} (h : PlanAt w X v lv mb H ps M L) (hf : Far X v w w') (hN : N ≤ X) : Eff N w w' := by
  have hX := (Array.getElem?_eq_some_iff.1 h.mem).1
  refine ⟨hf.below hN (fun g hg => by have := (h.own.lt g hg).1; omega) (by omega), fun k o ty fr hk ht => ?_⟩
  refine hf.block k (Array.getElem?_eq_some_iff.1 hk).1 (fun e => ?_) fun e => ?_
  · subst e
    rw [h.mem] at hk
    injection hk with hk
    injection hk with _ hk _
    subst hk
    rcases ht with ht | ht <;> exact absurd ht (by decide)
  · obtain ⟨c2, t2⟩ := row_type h.own e.symm
    rw [t2] at hk
    injection hk with hk
    injection hk with _ hk _
    subst hk
    rcases ht with ht | ht <;> exact absurd ht (by decide)
/-- what a call that writes one instruction does -/
theorem pl_lit {w0 w : World} {N X mb : Nat} {H : Type} {ps : List Ins} {M : List (List UInt8 × Nat)} {L : List (Nat × List UInt8)} (hb : Below w0.heap.size w0 w) (h : PlanIs w0 X mb H ps M L) (hN : N ≤ X) (x : Ins) (hn : ps.length ≤ 1000000) (hx : x.tree.length ≤ 281474976710656) :
    Calls Tryz.prog 56 #[.pointer (some ⟨X, 0, none⟩), .slice (some ⟨w.heap.size, 0, none⟩) 1 1] (w.alloc (.cells (progV [x]).toArray 43)) fun e w' => e = .returned (.tuple #[]) ∧ PlanIs w' X mb H (ps ++ [x]) M L ∧ Eff N w0 w' := by
  obtain ⟨v, lv, h⟩ := h
  have ha := alloc_belowW w (.cells (progV [x]).toArray 43)
  have h1 := h.later (bstep hb ha)
  have hX := (Array.getElem?_eq_some_iff.1 h.mem).1
  have hs := hb.size
  obtain ⟨_, b, off, cap, e, hc⟩ : 0 < [x].length ∧ ∃ b off cap, (.slice (some ⟨w.heap.size, 0, none⟩) 1 1 : Value) = .slice (some ⟨b, off, none⟩) [x].length cap ∧ ProgAt (w.alloc (.cells (progV [x]).toArray 43)) b off [x] := by
    rcases lit_own w [x] (by simp) with ⟨h9, _⟩ | h9
    · cases h9
    · exact h9
  injection e with e1 e2 e3
  injection e1 with e1
  injection e1 with e1 e4 _
  subst e1; subst e4; subst e3
  refine (padd_some _ X (X + 1) w.heap.size 0 1 1 (.map (some mb)) lv v ps [x] h1.wr hc rfl (by omega) (fun e => ?_) (by omega) (by simpa using hx)).mono ?_
  · have := (h.own.lt _ e).2; omega
  · rintro e w' ⟨rfl, v', h2, h3, _⟩
    exact ⟨rfl, ⟨v', lv, h1.wrote h2 h3⟩, (Eff.of_below (by omega) (bstep hb ha)).trans (h1.eff h3 hN)⟩
set_option maxHeartbeats 800000 in
set_option maxRecDepth 100000 in
theorem pset_any (w : World) (N X mb : Nat) (H : Type) (ps : List Ins) (M : List (List UInt8 × Nat)) (L : List (Nat × List UInt8)) (a : Int) (t : List UInt8) (h : PlanIs w X mb H ps M L) (hN : N ≤ X) (hn : ps.length ≤ 1000000) (hx : t.length ≤ 281474976710656) :
    Calls Tryz.prog 63 #[.pointer (some ⟨X, 0, none⟩), .int .i64 a, .string (S t)] w fun e w' => e = .returned (.tuple #[]) ∧ PlanIs w' X mb H (ps ++ [setI a t]) M L ∧ Eff N w w' := by
  have HH := Lib.hid (fun w1 (hb : Below w.heap.size w w1) => pl_lit hb h hN (setI a t) hn hx)
  clear h hn hN hx
  go_enter Tryz.func63, Tryz.ntmps63
  go_wp2_with fail
  refine (bset_is _ _ _).mono ?_
  rintro e w1 ⟨rfl, hb⟩
  have HB := Lib.hid hb
  clear hb
  go_wp2_with fail
  refine (HH.out _ HB.out).mono ?_
  rintro e w2 ⟨rfl, h1⟩
  have H1 := Lib.hid h1
  clear h1
  go_wp2
  go_end0
  exact ⟨rfl, H1.out⟩
set_option maxHeartbeats 800000 in
set_option maxRecDepth 100000 in
theorem pcons_any (w : World) (N X mb : Nat) (H : Type) (ps : List Ins) (M : List (List UInt8 × Nat)) (L : List (Nat × List UInt8)) (a b c : Int) (h : PlanIs w X mb H ps M L) (hN : N ≤ X) (hn : ps.length ≤ 1000000) :
    Calls Tryz.prog 64 #[.pointer (some ⟨X, 0, none⟩), .int .i64 a, .int .i64 b, .int .i64 c] w fun e w' => e = .returned (.tuple #[]) ∧ PlanIs w' X mb H (ps ++ [consI a b c]) M L ∧ Eff N w w' := by
  have HH := Lib.hid (fun w1 (hb : Below w.heap.size w w1) => pl_lit hb h hN (consI a b c) hn (by simp [consI]))
  clear h hn hN
  go_enter Tryz.func64, Tryz.ntmps64
  go_wp2_with fail
  refine (bcons_is _ _ _ _).mono ?_
  rintro e w1 ⟨rfl, hb⟩
  have HB := Lib.hid hb
  clear hb
  go_wp2_with fail
  refine (HH.out _ HB.out).mono ?_
  rintro e w2 ⟨rfl, h1⟩
  have H1 := Lib.hid h1
  clear h1
  go_wp2
  go_end0
  exact ⟨rfl, H1.out⟩
set_option maxHeartbeats 800000 in
set_option maxRecDepth 100000 in
theorem phead_any (w : World) (N X mb : Nat) (H : Type) (ps : List Ins) (M : List (List UInt8 × Nat)) (L : List (Nat × List UInt8)) (a b : Int) (h : PlanIs w X mb H ps M L) (hN : N ≤ X) (hn : ps.length ≤ 1000000) :
    Calls Tryz.prog 65 #[.pointer (some ⟨X, 0, none⟩), .int .i64 a, .int .i64 b] w fun e w' => e = .returned (.tuple #[]) ∧ PlanIs w' X mb H (ps ++ [headI a b]) M L ∧ Eff N w w' := by
  have HH := Lib.hid (fun w1 (hb : Below w.heap.size w w1) => pl_lit hb h hN (headI a b) hn (by simp [headI]))
  clear h hn hN
  go_enter Tryz.func65, Tryz.ntmps65
  go_wp2_with fail
  refine (bhead_is _ _ _).mono ?_
  rintro e w1 ⟨rfl, hb⟩
  have HB := Lib.hid hb
  clear hb
  go_wp2_with fail
  refine (HH.out _ HB.out).mono ?_
  rintro e w2 ⟨rfl, h1⟩
  have H1 := Lib.hid h1
  clear h1
  go_wp2
  go_end0
  exact ⟨rfl, H1.out⟩
set_option maxHeartbeats 800000 in
set_option maxRecDepth 100000 in
theorem ptail_any (w : World) (N X mb : Nat) (H : Type) (ps : List Ins) (M : List (List UInt8 × Nat)) (L : List (Nat × List UInt8)) (a b : Int) (h : PlanIs w X mb H ps M L) (hN : N ≤ X) (hn : ps.length ≤ 1000000) :
    Calls Tryz.prog 66 #[.pointer (some ⟨X, 0, none⟩), .int .i64 a, .int .i64 b] w fun e w' => e = .returned (.tuple #[]) ∧ PlanIs w' X mb H (ps ++ [tailI a b]) M L ∧ Eff N w w' := by
  have HH := Lib.hid (fun w1 (hb : Below w.heap.size w w1) => pl_lit hb h hN (tailI a b) hn (by simp [tailI]))
  clear h hn hN
  go_enter Tryz.func66, Tryz.ntmps66
  go_wp2_with fail
  refine (btail_is _ _ _).mono ?_
  rintro e w1 ⟨rfl, hb⟩
  have HB := Lib.hid hb
  clear hb
  go_wp2_with fail
  refine (HH.out _ HB.out).mono ?_
  rintro e w2 ⟨rfl, h1⟩
  have H1 := Lib.hid h1
  clear h1
  go_wp2
  go_end0
  exact ⟨rfl, H1.out⟩
set_option maxHeartbeats 800000 in
set_option maxRecDepth 100000 in
theorem pmove_any (w : World) (N X mb : Nat) (H : Type) (ps : List Ins) (M : List (List UInt8 × Nat)) (L : List (Nat × List UInt8)) (a b : Int) (h : PlanIs w X mb H ps M L) (hN : N ≤ X) (hn : ps.length ≤ 1000000) :
    Calls Tryz.prog 167 #[.pointer (some ⟨X, 0, none⟩), .int .i64 a, .int .i64 b] w fun e w' => e = .returned (.tuple #[]) ∧ PlanIs w' X mb H (ps ++ [moveI a b]) M L ∧ Eff N w w' := by
  have HH := Lib.hid (fun w1 (hb : Below w.heap.size w w1) => pl_lit hb h hN (moveI a b) hn (by simp [moveI]))
  clear h hn hN
  go_enter Tryz.func167, Tryz.ntmps167
  go_wp2_with fail
  refine (bmove_is _ _ _).mono ?_
  rintro e w1 ⟨rfl, hb⟩
  have HB := Lib.hid hb
  clear hb
  go_wp2_with fail
  refine (HH.out _ HB.out).mono ?_
  rintro e w2 ⟨rfl, h1⟩
  have H1 := Lib.hid h1
  clear h1
  go_wp2
  go_end0
  exact ⟨rfl, H1.out⟩
set_option maxHeartbeats 800000 in
set_option maxRecDepth 100000 in
theorem pjump_any (w : World) (N X mb : Nat) (H : Type) (ps : List Ins) (M : List (List UInt8 × Nat)) (L : List (Nat × List UInt8)) (a b : Int) (h : PlanIs w X mb H ps M L) (hN : N ≤ X) (hn : ps.length ≤ 1000000) :
    Calls Tryz.prog 165 #[.pointer (some ⟨X, 0, none⟩), .int .i64 a, .int .i64 b] w fun e w' => e = .returned (.tuple #[]) ∧ PlanIs w' X mb H (ps ++ [jumpI a b]) M L ∧ Eff N w w' := by
  have HH := Lib.hid (fun w1 (hb : Below w.heap.size w w1) => pl_lit hb h hN (jumpI a b) hn (by simp [jumpI]))
  clear h hn hN
  go_enter Tryz.func165, Tryz.ntmps165
  go_wp2_with fail
  refine (bjump_is _ _ _).mono ?_
  rintro e w1 ⟨rfl, hb⟩
  have HB := Lib.hid hb
  clear hb
  go_wp2_with fail
  refine (HH.out _ HB.out).mono ?_
  rintro e w2 ⟨rfl, h1⟩
  have H1 := Lib.hid h1
  clear h1
  go_wp2
  go_end0
  exact ⟨rfl, H1.out⟩
end Go.Proofs.YtkpfocgcnehajabGreatDoor
