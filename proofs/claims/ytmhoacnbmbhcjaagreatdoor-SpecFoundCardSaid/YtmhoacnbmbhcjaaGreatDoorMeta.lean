/- Package spec: Meta. By an AI agent. -/
import Derived.Test.YtmhoacnbmbhcjaaGreatDoorKnowA
import Derived.Test.YtmhoacnbmbhcjaaGreatDoorMetaO
import Derived.Test.YtmhoacnbmbhcjaaGreatDoorBwd
import Derived.Test.YtmhoacnbmbhcjaaGreatDoorItm
namespace Go.Proofs.YtmhoacnbmbhcjaaGreatDoor
open Go.RowKit Pl

/-- below B all is as it was, but for block X -/
structure Kp (X B : Nat) (w w' : World) : Prop where
  os : w'.os = w.os
  tape : w'.tape = w.tape
  output : w'.output = w.output
  size : w.heap.size ≤ w'.heap.size
  block : ∀ k, k < B → k ≠ X → w'.heap[k]? = w.heap[k]?
theorem Kp.refl (X B : Nat) (w : World) : Kp X B w w := ⟨rfl, rfl, rfl, Nat.le_refl _, fun _ _ _ => rfl⟩
theorem Kp.trans {X B : Nat} {u v w : World} (h : Kp X B u v) (k : Kp X B v w) : Kp X B u w :=
  ⟨k.os.trans h.os, k.tape.trans h.tape, k.output.trans h.output, Nat.le_trans h.size k.size, fun j h1 h2 => (k.block j h1 h2).trans (h.block j h1 h2)⟩
theorem Kp.of_below {X B : Nat} {w w' : World} (h : Below w.heap.size w w') (hB : B ≤ w.heap.size) : Kp X B w w' := ⟨h.os, h.tape, h.output, h.size, fun j h1 _ => h.block j (by omega)⟩
theorem Kp.of_far {X B : Nat} {v : Value} {ps : List Ins} {w w' : World} (h : Far X v w w') (hw : WrAt w X B v ps) : Kp X B w w' :=
  ⟨h.os, h.tape, h.output, h.size, fun j h1 h2 => h.block j (Nat.lt_of_lt_of_le h1 hw.le) h2 fun e => by have := (hw.own.lt j e.symm).1; omega⟩
theorem Kp.cell {X B : Nat} {w w' : World} (h : Kp X B w w') {j o : Nat} (h1 : j < B) (h2 : j ≠ X) : w'.cell? ⟨j, o, none⟩ = w.cell? ⟨j, o, none⟩ := World.cell?_of_block (w := w) (a := ⟨j, o, none⟩) (h.block j h1 h2)
theorem Kp.below {X B : Nat} {w w' : World} (h : Kp X B w w') (hX : X ≤ B) : Below X w w' := ⟨h.os, h.tape, h.output, h.size, fun j h1 => h.block j (by omega) (by omega)⟩
/-- the cells of other types are as they were, and so is what is no cells -/
def Ot (w w' : World) : Prop := ∀ (j : Nat) (o : Obj), w.heap[j]? = some o → (∀ cs fr, o ≠ .cells cs 77 fr) → (∀ cs fr, o ≠ .cells cs 64 fr) → w'.heap[j]? = some o
theorem Ot.trans {u v w : World} (h : Ot u v) (k : Ot v w) : Ot u w := fun j o h1 h2 h3 => k j o (h j o h1 h2 h3) h2 h3
theorem Ot.of_far {X B : Nat} {v : Value} {ps : List Ins} {w w' : World} (h : Far X v w w') (hw : WrAt w X B v ps) : Ot w w' := fun j o h1 h2 h3 => by
  have hj := (Array.getElem?_eq_some_iff.1 h1).1
  rw [h.block j hj ?_ ?_]
  · exact h1
  · rintro rfl
    rw [hw.mem] at h1
    exact h2 _ _ (Option.some.inj h1).symm
  · intro e
    rcases hw.own.2 with ⟨hv, _⟩ | ⟨g, cap, cur, hv, _, hg, _⟩
    · rw [hv] at e; cases e
    · rw [hv] at e
      have : j = g := by simpa [Value.ownBlock] using e
      subst this
      rw [hg] at h1
      exact h3 _ _ (Option.some.inj h1).symm
theorem Ot.keeps {w w' : World} (h : Ot w w') (hs : w.heap.size ≤ w'.heap.size) : KeepsOthers w w' := ⟨hs, fun j o h1 h2 => h j o h1 (fun cs fr e => by subst e; cases h2) (fun cs fr e => by subst e; cases h2)⟩
set_option maxHeartbeats 1600000 in
set_option maxRecDepth 100000 in
theorem put_any (w : World) (X B S0 C0 : Nat) (v : Value) (ps : List Ins) (r : Int) (t : List UInt8) (h : WrAt w X B v ps)
    (hS : w.cell? ⟨S0, 0, none⟩ = some (.func (.func 101) #[.pointer (some ⟨X, 0, none⟩)] #[])) (hC : w.cell? ⟨C0, 0, none⟩ = some (.func (.func 102) #[.pointer (some ⟨X, 0, none⟩)] #[]))
    (hCB : C0 < B) (hCX : C0 ≠ X) (hn : (ps.length + 2) * 48 ≤ 140737488355328) (ht : t.length ≤ 281474976710656) :
    Calls Tryz.prog 105 #[.string (S t), .int .i64 r, .pointer (some ⟨S0, 0, none⟩), .pointer (some ⟨C0, 0, none⟩)] w fun e w' => e = .returned (.tuple #[]) ∧ ∃ v', WrAt w' X B v' (ps ++ [setI 2 t, consI r 2 r]) ∧ Kp X B w w' ∧ Ot w w' := by
  have H := Lib.hid h; have HC := Lib.hid hC
  have HN := Lib.hid hn
  clear h hC
  go_enter Tryz.func105, Tryz.ntmps105
  go_wp2_with fail
  refine (wset_any _ X B v ps 2 t H.out (by omega) ht).mono ?_
  rintro e w1 ⟨rfl, v1, hw1, hf1⟩
  have HK1 := Lib.hid (Kp.of_far hf1 H.out); have HT1 := Lib.hid (Ot.of_far hf1 H.out)
  have HW1 := Lib.hid hw1
  have c1 : w1.cell? ⟨C0, 0, none⟩ = some (.func (.func 102) #[.pointer (some ⟨X, 0, none⟩)] #[]) := (HK1.out.cell hCB hCX).trans HC.out
  clear hw1 hf1 hS
  go_wp2_with fail
  refine (wcons_any _ X B v1 (ps ++ [setI 2 t]) r 2 r HW1.out (by simp only [List.length_append, List.length_cons, List.length_nil]; omega)).mono ?_
  rintro e w2 ⟨rfl, v2, hw2, hf2⟩
  have HK2 := Lib.hid (HK1.out.trans (Kp.of_far hf2 HW1.out)); have HT2 := Lib.hid (HT1.out.trans (Ot.of_far hf2 HW1.out))
  have HW2 : Hid (WrAt w2 X B v2 (ps ++ [setI 2 t, consI r 2 r])) := Lib.hid (by simpa using hw2)
  clear hw2 hf2 c1
  go_wp2
  go_end0
  exact ⟨rfl, _, HW2.out, HK2.out, HT2.out⟩
set_option maxHeartbeats 800000 in
set_option maxRecDepth 100000 in
theorem number_any (w : World) (n : Nat) (hn : n ≤ 1000) : Calls Tryz.prog 108 #[.int .i64 (n : Int)] w fun e w' => e = .returned (.string (S (num n))) ∧ Below w.heap.size w w' := by
  have H := Lib.hid (fun W => Number_yes n W (by omega))
  go_enter Tryz.func108, Tryz.ntmps108
  go_wp2_with fail
  refine (H.out _).mono ?_
  rintro e w1 ⟨rfl, h1⟩
  have HB := Lib.hid h1
  clear h1
  go_wp2
  go_ret
  exact ⟨rfl, HB.out⟩
def sup0 : List Ins := supplyL [48]
theorem sup0_valid : PValid sup0 := (fits_valid (rights_all.1 (allR_supply vld_0 _ _))).2 ⟨by decide, by decide⟩
theorem sup0_codes : codes sup0 = [[49, 48, 49, 49, 48, 48, 48], sec2, sec3] := by kernel_rfl
set_option maxHeartbeats 800000 in
set_option maxRecDepth 100000 in
/-- the codes of the instructions that supply nil -/
theorem codesOf_any (w : World) (v : Value) (h : ArgP w v sup0) : Calls Tryz.prog 106 #[v] w fun e w' => ∃ g cap base, e = .returned (.slice (some ⟨g, 0, none⟩) 3 cap) ∧ w'.ownsRow base 9 1 (.slice (some ⟨g, 0, none⟩) 3 cap) 3 (strsV (codes sup0)) ∧ Below w.heap.size w w' := by
  have hlen : (enc (codes sup0)).length ≤ 2000000 := of_decide_eq_true (by kernel_rfl)
  have HC := Lib.hid (PCode_arg w v sup0 h sup0_valid)
  have hvl : vld (S (enc (codes sup0))).data.toList = true := by rw [S_list]; exact code_vld sup0_valid hlen
  have hit : itemsOf (S (enc (codes sup0))).data.toList = codes sup0 := by rw [S_list]; exact code_items sup0_valid hlen
  have HI := Lib.hid (fun W => Items_yes (S (enc (codes sup0))) W hvl)
  rw [hit] at HI
  have HUN := Lib.hid (show ∀ W e W', CRes sup0 W e W' → Below W.heap.size W W' ∧ e = .returned (.tuple #[.string (S (enc (codes sup0))), .int .i64 0]) from fun W e W' h => by
    rcases h with ⟨⟨_, h2⟩ | ⟨h2, _⟩, h1⟩
    · exact ⟨h1, h2⟩
    · omega)
  obtain ⟨a, c, rfl⟩ := h.form
  clear h hlen hvl hit
  generalize S (enc (codes sup0)) = y at *
  go_enter Tryz.func106, Tryz.ntmps106
  go_wp2_with fail
  refine HC.out.mono ?_
  intro e w1 h
  obtain ⟨h1, rfl⟩ := HUN.out _ _ _ h
  have HB1 := Lib.hid h1
  clear h h1
  go_wp2_with fail
  refine (HI.out _).mono ?_
  rintro e w2 ⟨v2, base, rfl, ho, h2⟩
  have HB2 := Lib.hid (bstep HB1.out h2)
  have HO : Hid (w2.ownsRow base 9 1 v2 3 (strsV (codes sup0))) := Lib.hid ho
  have hf : ∃ g cap, v2 = .slice (some ⟨g, 0, none⟩) 3 cap := by
    rcases ho.2 with ⟨_, h9⟩ | ⟨g, cap, cur, h9, _⟩
    · exact absurd h9 (by decide)
    · exact ⟨g, cap, h9⟩
  obtain ⟨g, cap, rfl⟩ := hf
  clear ho h2
  go_wp2
  go_ret
  exact ⟨g, cap, base, rfl, HO.out, HB2.out⟩
end Go.Proofs.YtmhoacnbmbhcjaaGreatDoor
