/- The fields' functions: text, parse, code, decode. By an AI agent. -/
import Derived.Test.YtlfoigkpfooopaaGreatDoorClos
namespace Go.Proofs.YtlfoigkpfooopaaGreatDoor
open Go.RowKit Pl

/-- block b holds an instruction that may be written -/
structure InAt (w : World) (b : Nat) (x : Ins) : Prop where
  lt : b < w.heap.size
  c0 : w.cell? ⟨b, 0, none⟩ = some (.int .i64 x.op)
  c1 : w.cell? ⟨b, 1, none⟩ = some (.int .i64 x.a)
  c2 : w.cell? ⟨b, 2, none⟩ = some (.int .i64 x.b)
  c3 : w.cell? ⟨b, 3, none⟩ = some (.int .i64 x.c)
  c4 : w.cell? ⟨b, 4, none⟩ = some (.string (S x.tree))
  fz : ∀ k, w.frozen? ⟨b, k, none⟩ = false
theorem InAt.below {w w1 : World} {b : Nat} {x : Ins} (h : InAt w b x) (hb : Below w.heap.size w w1) : InAt w1 b x :=
  ⟨Nat.lt_of_lt_of_le h.lt hb.size, (hb.cell (p := ⟨b, 0, none⟩) h.lt).trans h.c0, (hb.cell (p := ⟨b, 1, none⟩) h.lt).trans h.c1, (hb.cell (p := ⟨b, 2, none⟩) h.lt).trans h.c2, (hb.cell (p := ⟨b, 3, none⟩) h.lt).trans h.c3, (hb.cell (p := ⟨b, 4, none⟩) h.lt).trans h.c4, fun k => (hb.frozen (p := ⟨b, k, none⟩) h.lt).trans (h.fz k)⟩
def Ins.setN (x : Ins) (j : Nat) (v : Int) : Ins := if j = 1 then { x with a := v } else if j = 2 then { x with b := v } else { x with c := v }
def Ins.getN (x : Ins) (j : Nat) : Int := if j = 1 then x.a else if j = 2 then x.b else x.c
/-- all but block b is as it was -/
structure Apart (b : Nat) (w w' : World) : Prop where
  os : w'.os = w.os
  tape : w'.tape = w.tape
  output : w'.output = w.output
  size : w.heap.size ≤ w'.heap.size
  block : ∀ k, k < w.heap.size → k ≠ b → w'.heap[k]? = w.heap[k]?
theorem Apart.of_below {b : Nat} {w w' : World} (h : Below w.heap.size w w') : Apart b w w' := ⟨h.os, h.tape, h.output, h.size, fun k hk _ => h.block k hk⟩
theorem Apart.below {b B : Nat} {w w' : World} (h : Apart b w w') (hB : B ≤ b) (hBw : B ≤ w.heap.size) : Below B w w' := ⟨h.os, h.tape, h.output, h.size, fun k hk => h.block k (by omega) (by omega)⟩
theorem Apart.trans {b : Nat} {u v w : World} (h : Apart b u v) (k : Apart b v w) : Apart b u w :=
  ⟨k.os.trans h.os, k.tape.trans h.tape, k.output.trans h.output, Nat.le_trans h.size k.size, fun i hi hb => (k.block i (Nat.lt_of_lt_of_le hi h.size) hb).trans (h.block i hi hb)⟩
theorem Apart.set (w : World) (b o : Nat) (v : Value) : Apart b w (w.setCell ⟨b, o, none⟩ v) :=
  ⟨rfl, rfl, rfl, by simp, fun k _ hk => Below.heap_setCell _ _ _ _ hk⟩
theorem Apart.cell {b : Nat} {w w' : World} (h : Apart b w w') {k o : Nat} (hk : k < w.heap.size) (hb : k ≠ b) : w'.cell? ⟨k, o, none⟩ = w.cell? ⟨k, o, none⟩ := World.cell?_of_block (h.block k hk hb)
theorem Apart.frozen {b : Nat} {w w' : World} (h : Apart b w w') {k o : Nat} (hk : k < w.heap.size) (hb : k ≠ b) : w'.frozen? ⟨k, o, none⟩ = w.frozen? ⟨k, o, none⟩ := World.frozen?_of_block (h.block k hk hb)
theorem cell_other {w : World} {b i j : Nat} {v u : Value} (h : i ≠ j) (hc : w.cell? ⟨b, j, none⟩ = some u) : (w.setCell ⟨b, i, none⟩ v).cell? ⟨b, j, none⟩ = some u :=
  (World.cell?_setCell_other (w := w) (a := ⟨b, i, none⟩) (b := ⟨b, j, none⟩) (v := v) (by intro e; cases e; exact h rfl)).trans hc
theorem InAt.set {w : World} {b j : Nat} {x : Ins} {v : Int} (h : InAt w b x) (hj : j = 1 ∨ j = 2 ∨ j = 3) : InAt (w.setCell ⟨b, j, none⟩ (.int .i64 v)) b (x.setN j v) := by
  have hf : ∀ k, (w.setCell ⟨b, j, none⟩ (.int .i64 v)).frozen? ⟨b, k, none⟩ = false := fun k => by rw [World.frozen?_setCell]; exact h.fz k
  have hl : b < (w.setCell ⟨b, j, none⟩ (.int .i64 v)).heap.size := by simp; exact h.lt
  rcases hj with rfl | rfl | rfl
  · exact ⟨hl, cell_other (by decide) h.c0, World.cell?_setCell_same' _ _ _ (by rw [h.c1]; rfl), cell_other (by decide) h.c2, cell_other (by decide) h.c3, cell_other (by decide) h.c4, hf⟩
  · exact ⟨hl, cell_other (by decide) h.c0, cell_other (by decide) h.c1, World.cell?_setCell_same' _ _ _ (by rw [h.c2]; rfl), cell_other (by decide) h.c3, cell_other (by decide) h.c4, hf⟩
  · exact ⟨hl, cell_other (by decide) h.c0, cell_other (by decide) h.c1, cell_other (by decide) h.c2, World.cell?_setCell_same' _ _ _ (by rw [h.c3]; rfl), cell_other (by decide) h.c4, hf⟩
theorem InAt.setT {w : World} {b : Nat} {x : Ins} {t : List UInt8} (h : InAt w b x) : InAt (w.setCell ⟨b, 4, none⟩ (.string (S t))) b { x with tree := t } :=
  ⟨by simp; exact h.lt, cell_other (by decide) h.c0, cell_other (by decide) h.c1, cell_other (by decide) h.c2, cell_other (by decide) h.c3, World.cell?_setCell_same' _ _ _ (by rw [h.c4]; rfl), fun k => by rw [World.frozen?_setCell]; exact h.fz k⟩
theorem InAt.getN {w : World} {b j : Nat} {x : Ins} (h : InAt w b x) (hj : j = 1 ∨ j = 2 ∨ j = 3) : w.cell? ⟨b, j, none⟩ = some (.int .i64 (x.getN j)) := by
  rcases hj with rfl | rfl | rfl
  · exact h.c1
  · exact h.c2
  · exact h.c3

/-- a function at which gives the place of field j -/
structure AtFn (g j : Nat) : Prop where
  eg : ∀ args w, (callFunc g args).run Tryz.prog w = .ok (.enter g args) w
  at' : ∀ (b : Nat) (W : World), Calls Tryz.prog g #[.pointer (some ⟨b, 0, none⟩)] W fun e w' => e = .returned (.pointer (some ⟨b, j, none⟩)) ∧ W = w'
theorem atA : AtFn 55 1 := ⟨enters_of Tryz.func55 (by kernel_rfl) rfl, fun b W => by
  go_enter Tryz.func55, Tryz.ntmps55
  go_wp2
  go_ret
  exact ⟨rfl, rfl⟩⟩
theorem atB : AtFn 56 2 := ⟨enters_of Tryz.func56 (by kernel_rfl) rfl, fun b W => by
  go_enter Tryz.func56, Tryz.ntmps56
  go_wp2
  go_ret
  exact ⟨rfl, rfl⟩⟩
theorem atC : AtFn 57 3 := ⟨enters_of Tryz.func57 (by kernel_rfl) rfl, fun b W => by
  go_enter Tryz.func57, Tryz.ntmps57
  go_wp2
  go_ret
  exact ⟨rfl, rfl⟩⟩

theorem regText (B g j b : Nat) (n : Int) (w : World) (hg : AtFn g j) (hc : CapAt w B g) (hn : w.cell? ⟨b, j, none⟩ = some (.int .i64 n)) (h0 : -9223372036854775808 ≤ n) (h1 : n ≤ 9223372036854775807) (hE : Env w) :
    Calls Tryz.prog 79 #[.pointer (some ⟨b, 0, none⟩), .pointer (some ⟨B, 0, none⟩)] w fun e w' => e = .returned (.string (S (Lib.itoa n))) ∧ Below w.heap.size w w' := by
  have eg := hg.eg
  have HG := Lib.hid hg
  have hcb := hc.2
  have HE := Lib.hid hE
  clear hg hE hc
  go_enter Tryz.func79, Tryz.ntmps79
  go_wp2_with fail
  refine (HG.out.at' b _).mono ?_
  rintro e w1 ⟨rfl, rfl⟩
  go_wp2_with fail
  refine (Itoa_any n _ h0 h1 HE.out).mono ?_
  rintro e w2 ⟨rfl, h2⟩
  go_wp2
  go_ret
  exact ⟨rfl, h2⟩
theorem regCode (B g j b n : Nat) (w : World) (hg : AtFn g j) (hc : CapAt w B g) (hn : w.cell? ⟨b, j, none⟩ = some (.int .i64 n)) (h1 : n ≤ 999999) :
    Calls Tryz.prog 84 #[.pointer (some ⟨b, 0, none⟩), .pointer (some ⟨B, 0, none⟩)] w fun e w' => e = .returned (.string (S (num n))) ∧ Below w.heap.size w w' := by
  have eg := hg.eg
  have HG := Lib.hid hg
  have hcb := hc.2
  clear hg hc
  go_enter Tryz.func84, Tryz.ntmps84
  go_wp2_with fail
  refine (HG.out.at' b _).mono ?_
  rintro e w1 ⟨rfl, rfl⟩
  go_wp2_with fail
  refine (codeNumber_yes n _ h1).mono ?_
  rintro e w2 ⟨rfl, h2⟩
  go_wp2
  go_ret
  exact ⟨rfl, h2⟩
def RdPost (b j : Nat) (w : World) (r : Option Value) (e : Ending) (w' : World) : Prop :=
  match r with
  | some v => e = .returned (.bool true) ∧ ∃ w1, Below w.heap.size w w1 ∧ w' = w1.setCell ⟨b, j, none⟩ v
  | none => e = .returned (.bool false) ∧ Below w.heap.size w w'
theorem readInt (g b j : Nat) (s : ByteArray) (r : Option Int) (u : Value) (w : World) (eg : ∀ args w, (callFunc g args).run Tryz.prog w = .ok (.enter g args) w) (hby : Calls Tryz.prog g #[.string s] w (DPost w r))
    (hb : b < w.heap.size) (hc : w.cell? ⟨b, j, none⟩ = some u) (hf : w.frozen? ⟨b, j, none⟩ = false) :
    Calls Tryz.prog 82 #[.string s, .func (.func g) #[] #[], .pointer (some ⟨b, j, none⟩)] w (RdPost b j w (r.map fun v => .int .i64 v)) := by
  have H := Lib.hid hby; clear hby
  cases r with
  | some v =>
    go_enter Tryz.func82, Tryz.ntmps82
    go_wp2_with fail
    refine H.out.mono ?_
    rintro e w1 ⟨rfl, h1⟩
    have c1 := (h1.cell (p := ⟨b, j, none⟩) hb).trans hc
    have f1 := (h1.frozen (p := ⟨b, j, none⟩) hb).trans hf
    go_wp2
    go_ret
    exact ⟨rfl, w1, h1, rfl⟩
  | none =>
    go_enter Tryz.func82, Tryz.ntmps82
    go_wp2_with fail
    refine H.out.mono ?_
    rintro e w1 ⟨n, rfl, h1⟩
    go_wp2
    go_ret
    exact ⟨rfl, h1⟩
theorem readStr (b j : Nat) (s : ByteArray) (u : Value) (w : World) (hs : s.size ≤ 281474976710656) (hb : b < w.heap.size) (hc : w.cell? ⟨b, j, none⟩ = some u) (hf : w.frozen? ⟨b, j, none⟩ = false) :
    Calls Tryz.prog 87 #[.string s, .func (.func 88) #[] #[], .pointer (some ⟨b, j, none⟩)] w (RdPost b j w (if vld s.data.toList = true then some (.string s) else none)) := by
  have H := Lib.hid (copyTree_any s w hs)
  cases hv : vld s.data.toList with
  | true =>
    have HV := Lib.hid hv; clear hv
    go_enter Tryz.func87, Tryz.ntmps87
    go_wp2_with fail
    refine H.out.mono ?_
    rw [HV.out]
    rintro e w1 ⟨rfl, h1⟩
    have c1 := (h1.cell (p := ⟨b, j, none⟩) hb).trans hc
    have f1 := (h1.frozen (p := ⟨b, j, none⟩) hb).trans hf
    go_wp2
    go_ret
    exact ⟨rfl, w1, h1, rfl⟩
  | false =>
    have HV := Lib.hid hv; clear hv
    go_enter Tryz.func87, Tryz.ntmps87
    go_wp2_with fail
    refine H.out.mono ?_
    rw [HV.out]
    rintro e w1 ⟨rfl, h1⟩
    go_wp2
    go_ret
    exact ⟨rfl, h1⟩
def FPost (b : Nat) (w : World) (r : Option Ins) (e : Ending) (w' : World) : Prop :=
  match r with
  | some x => e = .returned (.bool true) ∧ InAt w' b x ∧ Apart b w w'
  | none => e = .returned (.bool false) ∧ Apart b w w'
theorem RdPost.ins {b j : Nat} {w w' : World} {r : Option Int} {e : Ending} {x : Ins} (hj : j = 1 ∨ j = 2 ∨ j = 3) (hi : InAt w b x) (h : RdPost b j w (r.map fun v => .int .i64 v) e w') : FPost b w (r.map fun v => x.setN j v) e w' := by
  cases r with
  | some v =>
    obtain ⟨he, w1, h1, rfl⟩ := h
    exact ⟨he, (hi.below h1).set hj, (Apart.of_below h1).trans (Apart.set _ _ _ _)⟩
  | none => exact ⟨h.1, Apart.of_below h.2⟩
theorem RdPost.tree {b : Nat} {w w' : World} {s : List UInt8} {e : Ending} {x : Ins} (hi : InAt w b x) (h : RdPost b 4 w (if vld s = true then some (.string (S s)) else none) e w') : FPost b w (if vld s = true then some { x with tree := s } else none) e w' := by
  cases hv : vld s with
  | true =>
    rw [hv, if_pos rfl] at h
    obtain ⟨he, w1, h1, rfl⟩ := h
    rw [if_pos rfl]
    exact ⟨he, (hi.below h1).setT, (Apart.of_below h1).trans (Apart.set _ _ _ _)⟩
  | false =>
    rw [hv, if_neg (by decide)] at h
    rw [if_neg (by decide)]
    exact ⟨h.1, Apart.of_below h.2⟩
theorem parseNumber_any (s : ByteArray) (w : World) (hs : s.size ≤ 281474976710656) (hE : Env w) : Calls Tryz.prog 83 #[.string s] w (DPost w (pn s.data.toList)) := by
  cases h : pn s.data.toList with
  | some v => exact parseNumber_yes s v w hs h hE
  | none => exact parseNumber_no s w hs h hE
theorem decodeNumber_d (s : List UInt8) (w : World) (hv : vld s = true) (hE : Env w) : Calls Tryz.prog 70 #[.string (S s)] w (DPost w (DNum s)) := by
  unfold DNum
  cases h : alt s with
  | true => rw [if_pos rfl]; exact decodeNumber_yes s w hv h hE
  | false => rw [if_neg (by decide)]; exact (decodeNumber_no s w hv h hE).mono fun e w' h => ⟨0, h⟩

theorem FPost.bool {b : Nat} {w w' : World} {r : Option Ins} {e : Ending} (h : FPost b w r e w') : e = .returned (.bool r.isSome) ∧ Hid (FPost b w r (.returned (.bool r.isSome)) w') := by
  cases r with
  | some x => obtain ⟨rfl, h⟩ := h; exact ⟨rfl, ⟨rfl, h⟩⟩
  | none => obtain ⟨rfl, h⟩ := h; exact ⟨rfl, ⟨rfl, h⟩⟩
theorem regParse (B g j b : Nat) (s : ByteArray) (x : Ins) (w : World) (hj : j = 1 ∨ j = 2 ∨ j = 3) (hg : AtFn g j) (hc : CapAt w B g) (hi : InAt w b x) (hs : s.size ≤ 281474976710656) (hE : Env w) :
    Calls Tryz.prog 81 #[.pointer (some ⟨b, 0, none⟩), .string s, .pointer (some ⟨B, 0, none⟩)] w (FPost b w ((pn s.data.toList).map fun v => x.setN j v)) := by
  have eg := hg.eg
  have HG := Lib.hid hg
  have hcb := hc.2
  have HR := Lib.hid ((readInt 83 b j s (pn s.data.toList) _ w (enters_of Tryz.func83 (by kernel_rfl) rfl) (parseNumber_any s w hs hE) hi.lt (hi.getN hj) (hi.fz j)).mono fun e w' h => (RdPost.ins hj hi h).bool)
  clear hg hc hE hi hj
  generalize (pn s.data.toList).map (fun v => x.setN j v) = r at *
  go_enter Tryz.func81, Tryz.ntmps81
  go_wp2_with fail
  refine (HG.out.at' b _).mono ?_
  rintro e w1 ⟨rfl, rfl⟩
  go_wp2_with fail
  refine HR.out.mono ?_
  rintro e w2 ⟨rfl, h3⟩
  go_wp2
  go_ret
  exact h3.out
theorem regDecode (B g j b : Nat) (s : List UInt8) (x : Ins) (w : World) (hj : j = 1 ∨ j = 2 ∨ j = 3) (hg : AtFn g j) (hc : CapAt w B g) (hi : InAt w b x) (hs : vld s = true) (hE : Env w) :
    Calls Tryz.prog 85 #[.pointer (some ⟨b, 0, none⟩), .string (S s), .pointer (some ⟨B, 0, none⟩)] w (FPost b w ((DNum s).map fun v => x.setN j v)) := by
  have eg := hg.eg
  have HG := Lib.hid hg
  have hcb := hc.2
  have HR := Lib.hid ((readInt 70 b j (S s) (DNum s) _ w (enters_of Tryz.func70 (by kernel_rfl) rfl) (decodeNumber_d s w hs hE) hi.lt (hi.getN hj) (hi.fz j)).mono fun e w' h => (RdPost.ins hj hi h).bool)
  clear hg hc hE hi hj
  generalize (DNum s).map (fun v => x.setN j v) = r at *
  go_enter Tryz.func85, Tryz.ntmps85
  go_wp2_with fail
  refine (HG.out.at' b _).mono ?_
  rintro e w1 ⟨rfl, rfl⟩
  go_wp2_with fail
  refine HR.out.mono ?_
  rintro e w2 ⟨rfl, h3⟩
  go_wp2
  go_ret
  exact h3.out
theorem distText (b : Nat) (x : Ins) (w : World) (hi : InAt w b x) (h0 : -9223372036854775808 ≤ x.b) (h1 : x.b ≤ 9223372036854775807) (hE : Env w) :
    Calls Tryz.prog 91 #[.pointer (some ⟨b, 0, none⟩)] w fun e w' => e = .returned (.string (S (Lib.itoa x.b))) ∧ Below w.heap.size w w' := by
  have c2 := hi.c2
  have HE := Lib.hid hE; clear hE hi
  go_enter Tryz.func91, Tryz.ntmps91
  go_wp2_with fail
  refine (Itoa_any x.b _ h0 h1 HE.out).mono ?_
  rintro e w2 ⟨rfl, h2⟩
  go_wp2
  go_ret
  exact ⟨rfl, h2⟩
theorem distCode (b : Nat) (x : Ins) (w : World) (hi : InAt w b x) (h0 : -900000 ≤ x.b) (h1 : x.b ≤ 900000) :
    Calls Tryz.prog 93 #[.pointer (some ⟨b, 0, none⟩)] w fun e w' => e = .returned (.string (S (cd x.b))) ∧ Below w.heap.size w w' := by
  have c2 := hi.c2
  clear hi
  go_enter Tryz.func93, Tryz.ntmps93
  go_wp2_with fail
  refine (codeDistance_any x.b _ h0 h1).mono ?_
  rintro e w2 ⟨rfl, h2⟩
  go_wp2
  go_ret
  exact ⟨rfl, h2⟩
theorem distParse (b : Nat) (s : ByteArray) (x : Ins) (w : World) (hi : InAt w b x) (hs : s.size ≤ 281474976710656) (hE : Env w) :
    Calls Tryz.prog 92 #[.pointer (some ⟨b, 0, none⟩), .string s] w (FPost b w ((pn s.data.toList).map fun v => x.setN 2 v)) := by
  have HR := Lib.hid ((readInt 83 b 2 s (pn s.data.toList) _ w (enters_of Tryz.func83 (by kernel_rfl) rfl) (parseNumber_any s w hs hE) hi.lt hi.c2 (hi.fz 2)).mono fun e w' h => (RdPost.ins (.inr (.inl rfl)) hi h).bool)
  clear hE hi
  generalize (pn s.data.toList).map (fun v => x.setN 2 v) = r at *
  go_enter Tryz.func92, Tryz.ntmps92
  go_wp2_with fail
  refine HR.out.mono ?_
  rintro e w2 ⟨rfl, h3⟩
  go_wp2
  go_ret
  exact h3.out
theorem distDecode (b : Nat) (s : List UInt8) (x : Ins) (w : World) (hi : InAt w b x) (hs : vld s = true) (hE : Env w) :
    Calls Tryz.prog 95 #[.pointer (some ⟨b, 0, none⟩), .string (S s)] w (FPost b w ((dd s).map fun v => x.setN 2 v)) := by
  have HR := Lib.hid ((readInt 96 b 2 (S s) (dd s) _ w (enters_of Tryz.func96 (by kernel_rfl) rfl) (decodeDistance_any s w hs hE) hi.lt hi.c2 (hi.fz 2)).mono fun e w' h => (RdPost.ins (.inr (.inl rfl)) hi h).bool)
  clear hE hi
  generalize (dd s).map (fun v => x.setN 2 v) = r at *
  go_enter Tryz.func95, Tryz.ntmps95
  go_wp2_with fail
  refine HR.out.mono ?_
  rintro e w2 ⟨rfl, h3⟩
  go_wp2
  go_ret
  exact h3.out
theorem conText (b : Nat) (x : Ins) (w : World) (hi : InAt w b x) :
    Calls Tryz.prog 89 #[.pointer (some ⟨b, 0, none⟩)] w fun e w' => e = .returned (.string (S x.tree)) ∧ Below w.heap.size w w' := by
  have c4 := hi.c4
  clear hi
  go_enter Tryz.func89, Tryz.ntmps89
  go_wp2
  go_ret
  exact ⟨rfl, Below.refl _ _⟩
theorem conCode (b : Nat) (x : Ins) (w : World) (hi : InAt w b x) :
    Calls Tryz.prog 90 #[.pointer (some ⟨b, 0, none⟩)] w fun e w' => e = .returned (.string (S x.tree)) ∧ Below w.heap.size w w' := by
  have c4 := hi.c4
  clear hi
  go_enter Tryz.func90, Tryz.ntmps90
  go_wp2
  go_ret
  exact ⟨rfl, Below.refl _ _⟩
theorem conTake (b : Nat) (s : List UInt8) (x : Ins) (w : World) (hi : InAt w b x) (hs : s.length ≤ 281474976710656) :
    Calls Tryz.prog 86 #[.pointer (some ⟨b, 0, none⟩), .string (S s)] w (FPost b w (if vld s = true then some { x with tree := s } else none)) := by
  have HR := Lib.hid ((readStr b 4 (S s) _ w (by rw [S_size]; exact hs) hi.lt hi.c4 (hi.fz 4)).mono fun e w' h => (RdPost.tree hi h).bool)
  clear hi
  generalize (if vld s = true then some { x with tree := s } else none) = r at *
  go_enter Tryz.func86, Tryz.ntmps86
  go_wp2_with fail
  refine HR.out.mono ?_
  rintro e w2 ⟨rfl, h3⟩
  go_wp2
  go_ret
  exact h3.out
end Go.Proofs.YtlfoigkpfooopaaGreatDoor
