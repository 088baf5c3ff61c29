/- The methods of the plan of package univ: a place, a jump. By an AI agent. -/
import Derived.Test.YtkpfocgcnehajabGreatDoorPlan
namespace Go.Proofs.YtkpfocgcnehajabGreatDoor
open Go.RowKit Go.Maps Pl

theorem placesD_cons (H : Type) (n : List UInt8) (k : Nat) (M : List (List UInt8 × Nat)) : placesD H ((n, k) :: M) = (placesD H M).put (.string n) (.lit (.int .i64 (k : Int))) := rfl
theorem PlanAt.placed {w w' : World} {X mb : Nat} {v lv : Value} {H : Type} {ps : List Ins} {M M' : List (List UInt8 × Nat)} {L : List (Nat × List UInt8)} (h : PlanAt w X v lv mb H ps M L) (hm : w'.ownsMap (H := H) Tryz.prog 9 (plainElem Tryz.prog 3) mb M'.length (placesD H M')) (hg : w.grownBy w' (some mb)) : PlanAt w' X v lv mb H ps M' L := by
  have hX := (Array.getElem?_eq_some_iff.1 h.mem).1
  have hlt := h.mlt
  refine ⟨(hg.block X hX (by intro e; injection e with e; omega)).trans h.mem, h.own.kept hg (.inr fun e => ?_), h.own2.kept hg (.inr fun e => ?_), hm, h.mlt⟩
  · have := (h.own.lt mb e).1; omega
  · have := (h.own2.lt mb e).1; omega
theorem map_eff {w w' : World} {N mb : Nat} {es : Array _} {cl : Nat} (hm : w.heap[mb]? = some (.map es cl)) (hg : w.grownBy w' (some mb)) (hN : N ≤ mb) : Eff N w w' := by
  have hX := (Array.getElem?_eq_some_iff.1 hm).1
  refine ⟨⟨hg.os, hg.tape, hg.output, hg.size, fun k hk => hg.block k (by omega) (by intro e; injection e with e; omega)⟩, fun k o ty fr hk _ => hg.block k (Array.getElem?_eq_some_iff.1 hk).1 (by intro e; injection e with e; subst e; rw [hm] at hk; injection hk with hk; cases hk)⟩
set_option maxHeartbeats 1600000 in
set_option maxRecDepth 100000 in
theorem place_any (w : World) (N X mb : Nat) (H : Type) (ps : List Ins) (M : List (List UInt8 × Nat)) (L : List (Nat × List UInt8)) (n : List UInt8) (h : PlanIs w X mb H ps M L) (hN : N ≤ mb) (hn : ps.length ≤ 1000000) (hM : M.length ≤ 1000000) (hs : n.length ≤ 1000000) :
    Calls Tryz.prog 123 #[.pointer (some ⟨X, 0, none⟩), .string (S n)] w fun e w' => e = .returned (.tuple #[]) ∧ PlanIs w' X mb H ps ((n, ps.length) :: M) L ∧ Eff N w w' := by
  obtain ⟨v, lv, h⟩ := h
  obtain ⟨A, c, rfl⟩ : ∃ A c, v = .slice A ps.length c := by
    rcases h.own.2 with ⟨rfl, h0⟩ | ⟨g, cap, cur, rfl, _⟩
    · exact ⟨none, 0, by rw [h0]⟩
    · exact ⟨_, _, rfl⟩
  have c0 : w.cell? ⟨X, 0, none⟩ = some (.slice A ps.length c) := Lib.cell_of_heap h.mem 0
  have c1 : w.cell? ⟨X, 1, none⟩ = some (.map (some mb)) := Lib.cell_of_heap h.mem 1
  obtain ⟨w1, hrun, hown, hgrow⟩ := h.map.drew.update strLaw Tryz.underlying135 (by unfold maxLen; omega) (key := .string (S n)) (val := .int .i64 (ps.length : Int)) (kl := .string n) (by have hk := Go.WideMaps.keyOf_string_mk (P := Tryz.prog) Tryz.underlying9 (s := S n) (by rw [S_size]; unfold maxLen; omega); rw [S_list] at hk; exact hk) (plainElem_int Tryz.underlying3 (WalkArith.wf_i64 (by omega)))
  have HP := Lib.hid h; have HO := Lib.hid hown; have HG := Lib.hid hgrow
  clear h hown hgrow hn hM hs
  generalize ps.length = k at *
  go_enter Tryz.func123, Tryz.ntmps123
  go_still_tail 11, (by kernel_rfl)
  change wpList _ _ _ _ _ w.drew
  go_wp2
  go_end0
  obtain ⟨es, cl, hmb, _⟩ := HP.out.map
  have hg : w.grownBy w1 (some mb) := ⟨HG.out.os, HG.out.tape, HG.out.output, HG.out.size, HG.out.block⟩
  exact ⟨rfl, ⟨_, _, HP.out.placed (w := w) (M' := (n, k) :: M) HO.out hg⟩, map_eff (w := w) hmb hg hN⟩
theorem leapV_app (L : List (Nat × List UInt8)) (k : Nat) (n : List UInt8) : leapV (L ++ [(k, n)]) = leapV L ++ [.int .i64 (k : Int), .string (S n)] := by simp [leapV]
theorem leapV_len (L : List (Nat × List UInt8)) : (leapV L).length = L.length * 2 := by
  induction L with
  | nil => rfl
  | cons a L ih => simp only [leapV, List.flatMap_cons, List.length_append, List.length_cons, List.length_nil] at ih ⊢; omega
theorem PlanAt.leapt {w w3 : World} {N X mb gg cap1 k : Nat} {v lv : Value} {H : Type} {ps : List Ins} {M : List (List UInt8 × Nat)} {L : List (Nat × List UInt8)} {n : List UInt8} {ob : Obj} (h : PlanAt w X v lv mb H ps M L) (hN : N ≤ X)
    (ho : w3.ownsRow (X + 1) 194 2 (.slice (some ⟨gg, 0, none⟩) (L.length + 1) cap1) (L.length + 1) (leapV L ++ [.int .i64 (k : Int), .string (S n)])) (hg : (w.drew.alloc ob).grownBy w3 lv.ownBlock) :
    PlanAt (w3.setCell ⟨X, 2, none⟩ (.slice (some ⟨gg, 0, none⟩) (L.length + 1) cap1)) X v (.slice (some ⟨gg, 0, none⟩) (L.length + 1) cap1) mb H ps M (L ++ [(k, n)]) ∧ Eff N w (w3.setCell ⟨X, 2, none⟩ (.slice (some ⟨gg, 0, none⟩) (L.length + 1) cap1)) := by
  have hX := (Array.getElem?_eq_some_iff.1 h.mem).1
  have hs3 := hg.size
  have hs5 : (w.drew.alloc ob).heap.size = w.heap.size + 1 := by simp
  rw [hs5] at hs3
  have hlow : ∀ g, lv.ownBlock = some g → X + 1 ≤ g := fun g hg' => (h.own2.lt g hg').1
  have hblk : ∀ k, k < w.heap.size → some k ≠ lv.ownBlock → w3.heap[k]? = w.heap[k]? := fun j hj hr => by
    rw [hg.block j (by simp; omega) hr, Lib.alloc_old _ _ _ (by simp; omega)]; rfl
  have hXn : some X ≠ lv.ownBlock := fun e => by have := hlow X e.symm; omega
  have hX3 : w3.heap[X]? = some (.cells #[v, .map (some mb), lv] 138 (0, 0)) := (hblk X hX hXn).trans h.mem
  generalize hnv : Value.slice (some ⟨gg, 0, none⟩) (L.length + 1) cap1 = nv at *
  have hset : ∀ k, k < w.heap.size → some k ≠ lv.ownBlock → k ≠ X → (w3.setCell ⟨X, 2, none⟩ nv).heap[k]? = w.heap[k]? := fun j hj h1 h2 => by
    rw [Below.heap_setCell _ _ _ _ h2]; exact hblk j hj h1
  refine ⟨⟨Lib.heap_setCell_same (i := 2) hX3 nv, ownsRow_at h.own fun g hg' => ?_, ?_, ownsMap_at h.map (hset mb h.map.lt (fun e => ?_) (by have := h.mlt; omega)), h.mlt⟩, ⟨⟨hg.os, hg.tape, hg.output, ?_, fun j hj => hset j (by omega) (fun e => ?_) (by omega)⟩, fun j o ty fr hj ht => hset j (Array.getElem?_eq_some_iff.1 hj).1 (fun e => ?_) fun e => ?_⟩⟩
  · obtain ⟨c1, t1⟩ := row_type h.own hg'
    have h1 := h.own.lt g hg'
    refine hset g h1.2 (fun e => ?_) (by omega)
    obtain ⟨c2, t2⟩ := row_type h.own2 e.symm
    rw [t1] at t2
    simp at t2
  · rw [leapV_app, List.length_append]
    exact ownsRow_setCell_below ho (a := ⟨X, 2, none⟩) (Nat.lt_succ_self _) nv
  · have := hlow mb e.symm; have := h.mlt; omega
  · simp; omega
  · have := hlow j e.symm; omega
  · obtain ⟨c2, t2⟩ := row_type h.own2 e.symm
    rw [t2] at hj
    injection hj with hj
    injection hj with _ hj _
    subst hj
    rcases ht with ht | ht <;> exact absurd ht (by decide)
  · subst e
    rw [h.mem] at hj
    injection hj with hj
    injection hj with _ hj _
    subst hj
    rcases ht with ht | ht <;> exact absurd ht (by decide)
set_option maxHeartbeats 1600000 in
set_option maxRecDepth 100000 in
theorem jumpTo_any (w : World) (N X mb : Nat) (H : Type) (ps : List Ins) (M : List (List UInt8 × Nat)) (L : List (Nat × List UInt8)) (n : List UInt8) (a : Int) (h : PlanIs w X mb H ps M L) (hN : N ≤ X) (hn : ps.length ≤ 999999) (hL : L.length ≤ 999999) :
    Calls Tryz.prog 122 #[.pointer (some ⟨X, 0, none⟩), .string (S n), .int .i64 a] w fun e w' => e = .returned (.tuple #[]) ∧ PlanIs w' X mb H (ps ++ [jumpI a 0]) M (L ++ [(ps.length, n)]) ∧ Eff N w w' := by
  obtain ⟨i0, hi, hz0, hz1, hz2⟩ := info_parts Tryz.infoLeap
  obtain ⟨v, lv, h⟩ := h
  obtain ⟨A, c, rfl⟩ : ∃ A c, v = .slice A ps.length c := by
    rcases h.own.2 with ⟨rfl, h0⟩ | ⟨g, cap, cur, rfl, _⟩
    · exact ⟨none, 0, by rw [h0]⟩
    · exact ⟨_, _, rfl⟩
  have hXs := (Array.getElem?_eq_some_iff.1 h.mem).1
  have c0 : w.cell? ⟨X, 0, none⟩ = some (.slice A ps.length c) := Lib.cell_of_heap h.mem 0
  have c2 : w.cell? ⟨X, 2, none⟩ = some lv := Lib.cell_of_heap h.mem 2
  have f2 : w.frozen? ⟨X, 2, none⟩ = false := Lib.frozen_of_heap h.mem 2
  have HP := Lib.hid h; have HO2 := Lib.hid h.own2
  have HLP : Hid (∀ w3 gg cap1 ob, w3.ownsRow (X + 1) 194 2 (.slice (some ⟨gg, 0, none⟩) (L.length + 1) cap1) (L.length + 1) (leapV L ++ [.int .i64 (ps.length : Int), .string (S n)]) → (w.drew.alloc ob).grownBy w3 lv.ownBlock → PlanAt (w3.setCell ⟨X, 2, none⟩ (.slice (some ⟨gg, 0, none⟩) (L.length + 1) cap1)) X (.slice A ps.length c) (.slice (some ⟨gg, 0, none⟩) (L.length + 1) cap1) mb H ps M (L ++ [(ps.length, n)]) ∧ Eff N w (w3.setCell ⟨X, 2, none⟩ (.slice (some ⟨gg, 0, none⟩) (L.length + 1) cap1))) := Lib.hid fun w3 gg cap1 ob h1 h2 => h.leapt hN h1 h2
  have HPJ := Lib.hid (fun W L' (h : PlanIs W X mb H ps M L') => pjump_any W N X mb H ps M L' a 0 h hN (by omega))
  have HNE : Hid (some X ≠ lv.ownBlock) := Lib.hid fun e => by have := (h.own2.lt X e.symm).1; omega
  clear h
  generalize ps.length = k at *
  generalize L.length = m at *
  have c0a : (w.alloc (.cells #[.int .i64 (k : Int), .string (S n)] 194)).cell? ⟨X, 0, none⟩ = some (.slice A k c) := cell_keep (alloc_belowW _ _) c0
  have c2a : (w.alloc (.cells #[.int .i64 (k : Int), .string (S n)] 194)).cell? ⟨X, 2, none⟩ = some lv := cell_keep (alloc_belowW _ _) c2
  have HXA := Lib.hid c2a
  have HFA : Hid ((w.drew.alloc (.cells #[.int .i64 (k : Int), .string (S n)] 194)).frozen? ⟨X, 2, none⟩ = false) := Lib.hid (((alloc_belowW w.drew _).frozen (p := ⟨X, 2, none⟩) (cell_lt c2)).trans f2)
  go_enter Tryz.func122, Tryz.ntmps122
  go_wp2_with fail
  go_region_law (refine step_append_lies _ (by rfl) _ _ _ (by rfl) (X + 1) 194 i0 _ 2 24 Tryz.underlying136 hi hz0 hz1 hz2 rfl (by omega) _ _ _ (by rfl) (HO2.out.drew.alloc _) ⟨w.heap.size, 0, none⟩ 1 1 [.int .i64 (k : Int), .string (S n)] (by rfl) (by rfl) (World.news_of_block (cs := #[.int .i64 (k : Int), .string (S n)]) (t := 194) (fr := (0, 0)) (heap_alloc_new w.drew _)) (by simp [Value.oneCell']) (by omega) (by unfold maxLen; omega) (by omega) (by simp; omega) (w.heap.size + 1) (by simp) ?_; intro gg cap1 w3 hown3 hgrow3 hat hlt1; have j1 := hgrow3.cell (a := ⟨X, 2, none⟩) HXA.out HNE.out; have j2 := (hgrow3.frozen_far ⟨X, 2, none⟩ (cell_lt HXA.out) HNE.out).trans HFA.out)
  all_goals
    have hfin := Lib.hid (HLP.out _ _ _ _ hown3 hgrow3)
    clear j1 j2 hown3 hgrow3 hat hlt1 c0 c2 f2 c0a c2a
    go_wp2_with fail
    refine (HPJ.out _ _ ⟨_, _, hfin.out.1⟩).mono ?_
    rintro e w4 ⟨rfl, h1, h2⟩
    have H1 := Lib.hid h1; have H2 := Lib.hid (hfin.out.2.trans h2)
    clear h1 h2
    go_wp2
    go_end0
    exact ⟨rfl, H1.out, H2.out⟩
end Go.Proofs.YtkpfocgcnehajabGreatDoor
