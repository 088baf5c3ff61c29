/- The fields' functions: text, parse, code, decode. By an AI agent. -/
import Derived.Test.YtmhoacnbmbhcjaaGreatDoorNst
import Derived.BigQuiet
namespace Go.Proofs.YtmhoacnbmbhcjaaGreatDoor
open Go.RowKit Pl

/-- block b holds an instruction that may be written -/
structure InAt (w : World) (b : Nat) (x : Ins) : Prop where
  lt : b < w.heap.size
  c0 : w.cell? ⟨b, 0, none⟩ = some (.int .i64 x.op)
  c1 : w.cell? ⟨b, 1, none⟩ = some (.int .i64 x.a)
  c2 : w.cell? ⟨b, 2, none⟩ = some (.int .i64 x.b)
  c3 : w.cell? ⟨b, 3, none⟩ = some (.int .i64 x.c)
  c4 : w.cell? ⟨b, 4, none⟩ = some (.string (S x.tree))
  fz : ∀ k, w.frozen? ⟨b, k, none⟩ = false
theorem InAt.below {w w1 : World} {b : Nat} {x : Ins} (h : InAt w b x) (hb : Below w.heap.size w w1) : InAt w1 b x :=
  ⟨Nat.lt_of_lt_of_le h.lt hb.size, (hb.cell (p := ⟨b, 0, none⟩) h.lt).trans h.c0, (hb.cell (p := ⟨b, 1, none⟩) h.lt).trans h.c1, (hb.cell (p := ⟨b, 2, none⟩) h.lt).trans h.c2, (hb.cell (p := ⟨b, 3, none⟩) h.lt).trans h.c3, (hb.cell (p := ⟨b, 4, none⟩) h.lt).trans h.c4, fun k => (hb.frozen (p := ⟨b, k, none⟩) h.lt).trans (h.fz k)⟩
def Ins.setN (x : Ins) (j : Nat) (v : Int) : Ins := if j = 1 then { x with a := v } else if j = 2 then { x with b := v } else { x with c := v }
def Ins.getN (x : Ins) (j : Nat) : Int := if j = 1 then x.a else if j = 2 then x.b else x.c
/-- all but block b is as it was -/
structure Apart (b : Nat) (w w' : World) : Prop where
  os : w'.os = w.os
  tape : w'.tape = w.tape
  output : w'.output = w.output
  size : w.heap.size ≤ w'.heap.size
  block : ∀ k, k < w.heap.size → k ≠ b → w'.heap[k]? = w.heap[k]?
theorem Apart.of_below {b : Nat} {w w' : World} (h : Below w.heap.size w w') : Apart b w w' := ⟨h.os, h.tape, h.output, h.size, fun k hk _ => h.block k hk⟩
theorem Apart.below {b B : Nat} {w w' : World} (h : Apart b w w') (hB : B ≤ b) (hBw : B ≤ w.heap.size) : Below B w w' := ⟨h.os, h.tape, h.output, h.size, fun k hk => h.block k (by omega) (by omega)⟩
theorem Apart.trans {b : Nat} {u v w : World} (h : Apart b u v) (k : Apart b v w) : Apart b u w :=
  ⟨k.os.trans h.os, k.tape.trans h.tape, k.output.trans h.output, Nat.le_trans h.size k.size, fun i hi hb => (k.block i (Nat.lt_of_lt_of_le hi h.size) hb).trans (h.block i hi hb)⟩
theorem Apart.set (w : World) (b o : Nat) (v : Value) : Apart b w (w.setCell ⟨b, o, none⟩ v) :=
  ⟨rfl, rfl, rfl, by simp, fun k _ hk => Below.heap_setCell _ _ _ _ hk⟩
theorem Apart.cell {b : Nat} {w w' : World} (h : Apart b w w') {k o : Nat} (hk : k < w.heap.size) (hb : k ≠ b) : w'.cell? ⟨k, o, none⟩ = w.cell? ⟨k, o, none⟩ := World.cell?_of_block (h.block k hk hb)
theorem Apart.frozen {b : Nat} {w w' : World} (h : Apart b w w') {k o : Nat} (hk : k < w.heap.size) (hb : k ≠ b) : w'.frozen? ⟨k, o, none⟩ = w.frozen? ⟨k, o, none⟩ := World.frozen?_of_block (h.block k hk hb)
theorem cell_other {w : World} {b i j : Nat} {v u : Value} (h : i ≠ j) (hc : w.cell? ⟨b, j, none⟩ = some u) : (w.setCell ⟨b, i, none⟩ v).cell? ⟨b, j, none⟩ = some u :=
  (World.cell?_setCell_other (w := w) (a := ⟨b, i, none⟩) (b := ⟨b, j, none⟩) (v := v) (by intro e; cases e; exact h rfl)).trans hc
theorem InAt.set {w : World} {b j : Nat} {x : Ins} {v : Int} (h : InAt w b x) (hj : j = 1 ∨ j = 2 ∨ j = 3) : InAt (w.setCell ⟨b, j, none⟩ (.int .i64 v)) b (x.setN j v) := by
  have hf : ∀ k, (w.setCell ⟨b, j, none⟩ (.int .i64 v)).frozen? ⟨b, k, none⟩ = false := fun k => by rw [World.frozen?_setCell]; exact h.fz k
  have hl : b < (w.setCell ⟨b, j, none⟩ (.int .i64 v)).heap.size := by simp; exact h.lt
  rcases hj with rfl | rfl | rfl
  · exact ⟨hl, cell_other (by decide) h.c0, World.cell?_setCell_same' _ _ _ (by rw [h.c1]; rfl), cell_other (by decide) h.c2, cell_other (by decide) h.c3, cell_other (by decide) h.c4, hf⟩
  · exact ⟨hl, cell_other (by decide) h.c0, cell_other (by decide) h.c1, World.cell?_setCell_same' _ _ _ (by rw [h.c2]; rfl), cell_other (by decide) h.c3, cell_other (by decide) h.c4, hf⟩
  · exact ⟨hl, cell_other (by decide) h.c0, cell_other (by decide) h.c1, cell_other (by decide) h.c2, World.cell?_setCell_same' _ _ _ (by rw [h.c3]; rfl), cell_other (by decide) h.c4, hf⟩
theorem InAt.setT {w : World} {b : Nat} {x : Ins} {t : List UInt8} (h : InAt w b x) : InAt (w.setCell ⟨b, 4, none⟩ (.string (S t))) b { x with tree := t } :=
  ⟨by simp; exact h.lt, cell_other (by decide) h.c0, cell_other (by decide) h.c1, cell_other (by decide) h.c2, cell_other (by decide) h.c3, World.cell?_setCell_same' _ _ _ (by rw [h.c4]; rfl), fun k => by rw [World.frozen?_setCell]; exact h.fz k⟩
theorem InAt.getN {w : World} {b j : Nat} {x : Ins} (h : InAt w b x) (hj : j = 1 ∨ j = 2 ∨ j = 3) : w.cell? ⟨b, j, none⟩ = some (.int .i64 (x.getN j)) := by
  rcases hj with rfl | rfl | rfl
  · exact h.c1
  · exact h.c2
  · exact h.c3

/-- a function at which gives the place of field j -/
structure AtFn (g j : Nat) : Prop where
  eg : ∀ args w, (callFunc g args).run Tryz.prog w = .ok (.enter g args) w
  at' : ∀ (b : Nat) (W : World), Calls Tryz.prog g #[.pointer (some ⟨b, 0, none⟩)] W fun e w' => e = .returned (.pointer (some ⟨b, j, none⟩)) ∧ W = w'
theorem atA : AtFn 144 1 := ⟨enters_of Tryz.func144 (by kernel_rfl) rfl, fun b W => by
  go_enter Tryz.func144, Tryz.ntmps144
  go_wp2
  go_ret
  exact ⟨rfl, rfl⟩⟩
theorem atB : AtFn 145 2 := ⟨enters_of Tryz.func145 (by kernel_rfl) rfl, fun b W => by
  go_enter Tryz.func145, Tryz.ntmps145
  go_wp2
  go_ret
  exact ⟨rfl, rfl⟩⟩
theorem atC : AtFn 146 3 := ⟨enters_of Tryz.func146 (by kernel_rfl) rfl, fun b W => by
  go_enter Tryz.func146, Tryz.ntmps146
  go_wp2
  go_ret
  exact ⟨rfl, rfl⟩⟩

theorem regText (B g j b : Nat) (n : Int) (w : World) (hg : AtFn g j) (hc : CapAt w B g) (hn : w.cell? ⟨b, j, none⟩ = some (.int .i64 n)) (h0 : -9223372036854775808 ≤ n) (h1 : n ≤ 9223372036854775807) (hE : Env w) :
    Calls Tryz.prog 184 #[.pointer (some ⟨b, 0, none⟩), .pointer (some ⟨B, 0, none⟩)] w fun e w' => e = .returned (.string (S (Lib.itoa n))) ∧ Below w.heap.size w w' := by
  have eg := hg.eg
  have HG := Lib.hid hg
  have hcb := hc.2
  have HE := Lib.hid hE
  clear hg hE hc
  go_enter Tryz.func184, Tryz.ntmps184
  go_wp2_with fail
  refine (HG.out.at' b _).mono ?_
  rintro e w1 ⟨rfl, rfl⟩
  go_wp2_with fail
  refine (Itoa_any n _ h0 h1 HE.out).mono ?_
  rintro e w2 ⟨rfl, h2⟩
  go_wp2
  go_ret
  exact ⟨rfl, h2⟩
theorem regCode (B g j b n : Nat) (w : World) (hg : AtFn g j) (hc : CapAt w B g) (hn : w.cell? ⟨b, j, none⟩ = some (.int .i64 n)) (h1 : n ≤ 999999) :
    Calls Tryz.prog 188 #[.pointer (some ⟨b, 0, none⟩), .pointer (some ⟨B, 0, none⟩)] w fun e w' => e = .returned (.string (S (num n))) ∧ Below w.heap.size w w' := by
  have eg := hg.eg
  have HG := Lib.hid hg
  have hcb := hc.2
  clear hg hc
  go_enter Tryz.func188, Tryz.ntmps188
  go_wp2_with fail
  refine (HG.out.at' b _).mono ?_
  rintro e w1 ⟨rfl, rfl⟩
  go_wp2_with fail
  refine (codeNumber_yes n _ h1).mono ?_
  rintro e w2 ⟨rfl, h2⟩
  go_wp2
  go_ret
  exact ⟨rfl, h2⟩
def RdPost (b j : Nat) (w : World) (r : Option Value) (e : Ending) (w' : World) : Prop :=
  match r with
  | some v => e = .returned (.bool true) ∧ ∃ w1, Below w.heap.size w w1 ∧ w' = w1.setCell ⟨b, j, none⟩ v
  | none => e = .returned (.bool false) ∧ Below w.heap.size w w'
theorem readInt (g b j : Nat) (s : ByteArray) (r : Option Int) (u : Value) (w : World) (eg : ∀ args w, (callFunc g args).run Tryz.prog w = .ok (.enter g args) w) (hby : Calls Tryz.prog g #[.string s] w (DPost w r))
    (hb : b < w.heap.size) (hc : w.cell? ⟨b, j, none⟩ = some u) (hf : w.frozen? ⟨b, j, none⟩ = false) :
    Calls Tryz.prog 186 #[.string s, .func (.func g) #[] #[], .pointer (some ⟨b, j, none⟩)] w (RdPost b j w (r.map fun v => .int .i64 v)) := by
  have H := Lib.hid hby; clear hby
  cases r with
  | some v =>
    go_enter Tryz.func186, Tryz.ntmps186
    go_wp2_with fail
    refine H.out.mono ?_
    rintro e w1 ⟨rfl, h1⟩
    have c1 := (h1.cell (p := ⟨b, j, none⟩) hb).trans hc
    have f1 := (h1.frozen (p := ⟨b, j, none⟩) hb).trans hf
    go_wp2
    go_ret
    exact ⟨rfl, w1, h1, rfl⟩
  | none =>
    go_enter Tryz.func186, Tryz.ntmps186
    go_wp2_with fail
    refine H.out.mono ?_
    rintro e w1 ⟨n, rfl, h1⟩
    go_wp2
    go_ret
    exact ⟨rfl, h1⟩
theorem readStr (b j : Nat) (s : ByteArray) (u : Value) (w : World) (hs : s.size ≤ 281474976710656) (hb : b < w.heap.size) (hc : w.cell? ⟨b, j, none⟩ = some u) (hf : w.frozen? ⟨b, j, none⟩ = false) :
    Calls Tryz.prog 191 #[.string s, .func (.func 192) #[] #[], .pointer (some ⟨b, j, none⟩)] w (RdPost b j w (if vld s.data.toList = true then some (.string s) else none)) := by
  have H := Lib.hid (copyTree_any s w hs)
  cases hv : vld s.data.toList with
  | true =>
    have HV := Lib.hid hv; clear hv
    go_enter Tryz.func191, Tryz.ntmps191
    go_wp2_with fail
    refine H.out.mono ?_
    rw [HV.out]
    rintro e w1 ⟨rfl, h1⟩
    have c1 := (h1.cell (p := ⟨b, j, none⟩) hb).trans hc
    have f1 := (h1.frozen (p := ⟨b, j, none⟩) hb).trans hf
    go_wp2
    go_ret
    exact ⟨rfl, w1, h1, rfl⟩
  | false =>
    have HV := Lib.hid hv; clear hv
    go_enter Tryz.func191, Tryz.ntmps191
    go_wp2_with fail
    refine H.out.mono ?_
    rw [HV.out]
    rintro e w1 ⟨rfl, h1⟩
    go_wp2
    go_ret
    exact ⟨rfl, h1⟩
def FPost (b : Nat) (w : World) (r : Option Ins) (e : Ending) (w' : World) : Prop :=
  match r with
  | some x => e = .returned (.bool true) ∧ InAt w' b x ∧ Apart b w w'
  | none => e = .returned (.bool false) ∧ Apart b w w'
theorem RdPost.ins {b j : Nat} {w w' : World} {r : Option Int} {e : Ending} {x : Ins} (hj : j = 1 ∨ j = 2 ∨ j = 3) (hi : InAt w b x) (h : RdPost b j w (r.map fun v => .int .i64 v) e w') : FPost b w (r.map fun v => x.setN j v) e w' := by
  cases r with
  | some v =>
    obtain ⟨he, w1, h1, rfl⟩ := h
    exact ⟨he, (hi.below h1).set hj, (Apart.of_below h1).trans (Apart.set _ _ _ _)⟩
  | none => exact ⟨h.1, Apart.of_below h.2⟩
theorem RdPost.tree {b : Nat} {w w' : World} {s : List UInt8} {e : Ending} {x : Ins} (hi : InAt w b x) (h : RdPost b 4 w (if vld s = true then some (.string (S s)) else none) e w') : FPost b w (if vld s = true then some { x with tree := s } else none) e w' := by
  cases hv : vld s with
  | true =>
    rw [hv, if_pos rfl] at h
    obtain ⟨he, w1, h1, rfl⟩ := h
    rw [if_pos rfl]
    exact ⟨he, (hi.below h1).setT, (Apart.of_below h1).trans (Apart.set _ _ _ _)⟩
  | false =>
    rw [hv, if_neg (by decide)] at h
    rw [if_neg (by decide)]
    exact ⟨h.1, Apart.of_below h.2⟩
theorem parseNumber_any (s : ByteArray) (w : World) (hs : s.size ≤ 281474976710656) (hE : Env w) : Calls Tryz.prog 187 #[.string s] w (DPost w (pn s.data.toList)) := by
  cases h : pn s.data.toList with
  | some v => exact parseNumber_yes s v w hs h hE
  | none => exact parseNumber_no s w hs h hE
theorem decodeNumber_d (s : List UInt8) (w : World) (hv : vld s = true) (hE : Env w) : Calls Tryz.prog 156 #[.string (S s)] w (DPost w (DNum s)) := by
  unfold DNum
  cases h : alt s with
  | true => rw [if_pos rfl]; exact decodeNumber_yes s w hv h hE
  | false => rw [if_neg (by decide)]; exact (decodeNumber_no s w hv h hE).mono fun e w' h => ⟨0, h⟩

theorem FPost.bool {b : Nat} {w w' : World} {r : Option Ins} {e : Ending} (h : FPost b w r e w') : e = .returned (.bool r.isSome) ∧ Hid (FPost b w r (.returned (.bool r.isSome)) w') := by
  cases r with
  | some x => obtain ⟨rfl, h⟩ := h; exact ⟨rfl, ⟨rfl, h⟩⟩
  | none => obtain ⟨rfl, h⟩ := h; exact ⟨rfl, ⟨rfl, h⟩⟩
theorem regParse (B g j b : Nat) (s : ByteArray) (x : Ins) (w : World) (hj : j = 1 ∨ j = 2 ∨ j = 3) (hg : AtFn g j) (hc : CapAt w B g) (hi : InAt w b x) (hs : s.size ≤ 281474976710656) (hE : Env w) :
    Calls Tryz.prog 185 #[.pointer (some ⟨b, 0, none⟩), .string s, .pointer (some ⟨B, 0, none⟩)] w (FPost b w ((pn s.data.toList).map fun v => x.setN j v)) := by
  have eg := hg.eg
  have HG := Lib.hid hg
  have hcb := hc.2
  have HR := Lib.hid ((readInt 187 b j s (pn s.data.toList) _ w (enters_of Tryz.func187 (by kernel_rfl) rfl) (parseNumber_any s w hs hE) hi.lt (hi.getN hj) (hi.fz j)).mono fun e w' h => (RdPost.ins hj hi h).bool)
  clear hg hc hE hi hj
  generalize (pn s.data.toList).map (fun v => x.setN j v) = r at *
  go_enter Tryz.func185, Tryz.ntmps185
  go_wp2_with fail
  refine (HG.out.at' b _).mono ?_
  rintro e w1 ⟨rfl, rfl⟩
  go_wp2_with fail
  refine HR.out.mono ?_
  rintro e w2 ⟨rfl, h3⟩
  go_wp2
  go_ret
  exact h3.out
theorem regDecode (B g j b : Nat) (s : List UInt8) (x : Ins) (w : World) (hj : j = 1 ∨ j = 2 ∨ j = 3) (hg : AtFn g j) (hc : CapAt w B g) (hi : InAt w b x) (hs : vld s = true) (hE : Env w) :
    Calls Tryz.prog 189 #[.pointer (some ⟨b, 0, none⟩), .string (S s), .pointer (some ⟨B, 0, none⟩)] w (FPost b w ((DNum s).map fun v => x.setN j v)) := by
  have eg := hg.eg
  have HG := Lib.hid hg
  have hcb := hc.2
  have HR := Lib.hid ((readInt 156 b j (S s) (DNum s) _ w (enters_of Tryz.func156 (by kernel_rfl) rfl) (decodeNumber_d s w hs hE) hi.lt (hi.getN hj) (hi.fz j)).mono fun e w' h => (RdPost.ins hj hi h).bool)
  clear hg hc hE hi hj
  generalize (DNum s).map (fun v => x.setN j v) = r at *
  go_enter Tryz.func189, Tryz.ntmps189
  go_wp2_with fail
  refine (HG.out.at' b _).mono ?_
  rintro e w1 ⟨rfl, rfl⟩
  go_wp2_with fail
  refine HR.out.mono ?_
  rintro e w2 ⟨rfl, h3⟩
  go_wp2
  go_ret
  exact h3.out
theorem distText (b : Nat) (x : Ins) (w : World) (hi : InAt w b x) (h0 : -9223372036854775808 ≤ x.b) (h1 : x.b ≤ 9223372036854775807) (hE : Env w) :
    Calls Tryz.prog 195 #[.pointer (some ⟨b, 0, none⟩)] w fun e w' => e = .returned (.string (S (Lib.itoa x.b))) ∧ Below w.heap.size w w' := by
  have c2 := hi.c2
  have HE := Lib.hid hE; clear hE hi
  go_enter Tryz.func195, Tryz.ntmps195
  go_wp2_with fail
  refine (Itoa_any x.b _ h0 h1 HE.out).mono ?_
  rintro e w2 ⟨rfl, h2⟩
  go_wp2
  go_ret
  exact ⟨rfl, h2⟩
theorem distCode (b : Nat) (x : Ins) (w : World) (hi : InAt w b x) (h0 : -900000 ≤ x.b) (h1 : x.b ≤ 900000) :
    Calls Tryz.prog 197 #[.pointer (some ⟨b, 0, none⟩)] w fun e w' => e = .returned (.string (S (cd x.b))) ∧ Below w.heap.size w w' := by
  have c2 := hi.c2
  clear hi
  go_enter Tryz.func197, Tryz.ntmps197
  go_wp2_with fail
  refine (codeDistance_any x.b _ h0 h1).mono ?_
  rintro e w2 ⟨rfl, h2⟩
  go_wp2
  go_ret
  exact ⟨rfl, h2⟩
theorem distParse (b : Nat) (s : ByteArray) (x : Ins) (w : World) (hi : InAt w b x) (hs : s.size ≤ 281474976710656) (hE : Env w) :
    Calls Tryz.prog 196 #[.pointer (some ⟨b, 0, none⟩), .string s] w (FPost b w ((pn s.data.toList).map fun v => x.setN 2 v)) := by
  have HR := Lib.hid ((readInt 187 b 2 s (pn s.data.toList) _ w (enters_of Tryz.func187 (by kernel_rfl) rfl) (parseNumber_any s w hs hE) hi.lt hi.c2 (hi.fz 2)).mono fun e w' h => (RdPost.ins (.inr (.inl rfl)) hi h).bool)
  clear hE hi
  generalize (pn s.data.toList).map (fun v => x.setN 2 v) = r at *
  go_enter Tryz.func196, Tryz.ntmps196
  go_wp2_with fail
  refine HR.out.mono ?_
  rintro e w2 ⟨rfl, h3⟩
  go_wp2
  go_ret
  exact h3.out
theorem distDecode (b : Nat) (s : List UInt8) (x : Ins) (w : World) (hi : InAt w b x) (hs : vld s = true) (hE : Env w) :
    Calls Tryz.prog 199 #[.pointer (some ⟨b, 0, none⟩), .string (S s)] w (FPost b w ((dd s).map fun v => x.setN 2 v)) := by
  have HR := Lib.hid ((readInt 200 b 2 (S s) (dd s) _ w (enters_of Tryz.func200 (by kernel_rfl) rfl) (decodeDistance_any s w hs hE) hi.lt hi.c2 (hi.fz 2)).mono fun e w' h => (RdPost.ins (.inr (.inl rfl)) hi h).bool)
  clear hE hi
  generalize (dd s).map (fun v => x.setN 2 v) = r at *
  go_enter Tryz.func199, Tryz.ntmps199
  go_wp2_with fail
  refine HR.out.mono ?_
  rintro e w2 ⟨rfl, h3⟩
  go_wp2
  go_ret
  exact h3.out
theorem conText (b : Nat) (x : Ins) (w : World) (hi : InAt w b x) :
    Calls Tryz.prog 193 #[.pointer (some ⟨b, 0, none⟩)] w fun e w' => e = .returned (.string (S x.tree)) ∧ Below w.heap.size w w' := by
  have c4 := hi.c4
  clear hi
  go_enter Tryz.func193, Tryz.ntmps193
  go_wp2
  go_ret
  exact ⟨rfl, Below.refl _ _⟩
theorem conCode (b : Nat) (x : Ins) (w : World) (hi : InAt w b x) :
    Calls Tryz.prog 194 #[.pointer (some ⟨b, 0, none⟩)] w fun e w' => e = .returned (.string (S x.tree)) ∧ Below w.heap.size w w' := by
  have c4 := hi.c4
  clear hi
  go_enter Tryz.func194, Tryz.ntmps194
  go_wp2
  go_ret
  exact ⟨rfl, Below.refl _ _⟩
theorem conTake (b : Nat) (s : List UInt8) (x : Ins) (w : World) (hi : InAt w b x) (hs : s.length ≤ 281474976710656) :
    Calls Tryz.prog 190 #[.pointer (some ⟨b, 0, none⟩), .string (S s)] w (FPost b w (if vld s = true then some { x with tree := s } else none)) := by
  have HR := Lib.hid ((readStr b 4 (S s) _ w (by rw [S_size]; exact hs) hi.lt hi.c4 (hi.fz 4)).mono fun e w' h => (RdPost.tree hi h).bool)
  clear hi
  generalize (if vld s = true then some { x with tree := s } else none) = r at *
  go_enter Tryz.func190, Tryz.ntmps190
  go_wp2_with fail
  refine HR.out.mono ?_
  rintro e w2 ⟨rfl, h3⟩
  go_wp2
  go_ret
  exact h3.out
end Go.Proofs.YtmhoacnbmbhcjaaGreatDoor

namespace Go.Proofs.YtmhoacnbmbhcjaaGreatDoor
open Go.RowKit Pl

inductive Fld
  | reg (j : Nat)
  | dist
  | con
def Fld.txt (x : Ins) : Fld → List UInt8
  | .reg j => Lib.itoa (x.getN j)
  | .dist => Lib.itoa x.b
  | .con => x.tree
def Fld.cod (x : Ins) : Fld → List UInt8
  | .reg j => num (x.getN j).toNat
  | .dist => cd x.b
  | .con => x.tree
def Fld.par (s : List UInt8) (x : Ins) : Fld → Option Ins
  | .reg j => (pn s).map fun v => x.setN j v
  | .dist => (pn s).map fun v => x.setN 2 v
  | .con => if vld s = true then some { x with tree := s } else none
def Fld.dec (s : List UInt8) (x : Ins) : Fld → Option Ins
  | .reg j => (DNum s).map fun v => x.setN j v
  | .dist => (dd s).map fun v => x.setN 2 v
  | .con => if vld s = true then some { x with tree := s } else none
/-- the numbers that a field is written with are small -/
def Fine (x : Ins) : Prop := (0 ≤ x.a ∧ x.a ≤ 99999) ∧ (-99999 ≤ x.b ∧ x.b ≤ 99999) ∧ (0 ≤ x.c ∧ x.c ≤ 99999)
def Fld.fits (x : Ins) : Fld → Prop
  | .reg 2 => 0 ≤ x.b
  | _ => True
def InstrT (gt : Nat) (lb : Array Value) (w0 : World) (f : Fld) : Prop :=
  (∀ args w, (callFunc gt args).run Tryz.prog w = .ok (.enter gt args) w) ∧
  ∀ (W : World) (b : Nat) (x : Ins), Below w0.heap.size w0 W → InAt W b x → Fine x → f.fits x → Env W → Calls Tryz.prog gt (#[.pointer (some ⟨b, 0, none⟩)] ++ lb) W fun e w' => e = .returned (.string (S (f.txt x))) ∧ Below W.heap.size W w'
def InstrC (gc : Nat) (lb : Array Value) (w0 : World) (f : Fld) : Prop :=
  (∀ args w, (callFunc gc args).run Tryz.prog w = .ok (.enter gc args) w) ∧
  ∀ (W : World) (b : Nat) (x : Ins), Below w0.heap.size w0 W → InAt W b x → Fine x → f.fits x → Calls Tryz.prog gc (#[.pointer (some ⟨b, 0, none⟩)] ++ lb) W fun e w' => e = .returned (.string (S (f.cod x))) ∧ Below W.heap.size W w'
def InstrP (gp : Nat) (lb : Array Value) (w0 : World) (f : Fld) : Prop :=
  (∀ args w, (callFunc gp args).run Tryz.prog w = .ok (.enter gp args) w) ∧
  ∀ (W : World) (b : Nat) (x : Ins) (s : List UInt8), Below w0.heap.size w0 W → InAt W b x → s.length ≤ 281474976710656 → Env W → Calls Tryz.prog gp (#[.pointer (some ⟨b, 0, none⟩), .string (S s)] ++ lb) W (FPost b W (f.par s x))
def InstrD (gd : Nat) (lb : Array Value) (w0 : World) (f : Fld) : Prop :=
  (∀ args w, (callFunc gd args).run Tryz.prog w = .ok (.enter gd args) w) ∧
  ∀ (W : World) (b : Nat) (x : Ins) (s : List UInt8), Below w0.heap.size w0 W → InAt W b x → vld s = true → Env W → Calls Tryz.prog gd (#[.pointer (some ⟨b, 0, none⟩), .string (S s)] ++ lb) W (FPost b W (f.dec s x))
/-- the four cells hold functions that do what the field's are to do, in every later world -/
def Fits (w0 : World) (f : Fld) (cs : List Value) : Prop :=
  ∃ gt gp gc gd lb, cs = [.func (.func gt) #[] lb, .func (.func gp) #[] lb, .func (.func gc) #[] lb, .func (.func gd) #[] lb] ∧ InstrT gt lb w0 f ∧ InstrP gp lb w0 f ∧ InstrC gc lb w0 f ∧ InstrD gd lb w0 f
theorem later {w0 w1 W : World} (h : Below w0.heap.size w0 w1) (hb : Below w1.heap.size w1 W) : Below w0.heap.size w0 W := h.trans (hb.mono h.size)
theorem Fits.below {w0 w1 : World} {f : Fld} {cs : List Value} (h : Fits w0 f cs) (hb : Below w0.heap.size w0 w1) : Fits w1 f cs := by
  obtain ⟨gt, gp, gc, gd, lb, e, h1, h2, h3, h4⟩ := h
  exact ⟨gt, gp, gc, gd, lb, e, ⟨h1.1, fun W b x k => h1.2 W b x (later hb k)⟩, ⟨h2.1, fun W b x s k => h2.2 W b x s (later hb k)⟩, ⟨h3.1, fun W b x k => h3.2 W b x (later hb k)⟩, ⟨h4.1, fun W b x s k => h4.2 W b x s (later hb k)⟩⟩
theorem fine_reg {x : Ins} {j : Nat} (hj : j = 1 ∨ j = 2 ∨ j = 3) (h : Fine x) (hf : (Fld.reg j).fits x) : ∃ n : Nat, x.getN j = n ∧ n ≤ 99999 := by
  obtain ⟨h1, h2, h3⟩ := h
  rcases hj with rfl | rfl | rfl
  · exact ⟨x.a.toNat, by simp [Ins.getN]; omega, by omega⟩
  · have : 0 ≤ x.b := hf
    exact ⟨x.b.toNat, by simp [Ins.getN]; omega, by omega⟩
  · exact ⟨x.c.toNat, by simp [Ins.getN]; omega, by omega⟩
theorem fits_reg (w0 : World) (B g j : Nat) (hj : j = 1 ∨ j = 2 ∨ j = 3) (hg : AtFn g j) (hc : CapAt w0 B g) : Fits w0 (.reg j) (regV B) := by
  refine ⟨_, _, _, _, _, rfl, ⟨enters_of Tryz.func184 (by kernel_rfl) rfl, ?_⟩, ⟨enters_of Tryz.func185 (by kernel_rfl) rfl, ?_⟩, ⟨enters_of Tryz.func188 (by kernel_rfl) rfl, ?_⟩, ⟨enters_of Tryz.func189 (by kernel_rfl) rfl, ?_⟩⟩
  · intro W b x hb hi hx hf hE
    obtain ⟨n, hn, hn1⟩ := fine_reg hj hx hf
    exact regText B g j b (x.getN j) W hg (hc.below hb) (hi.getN hj) (by omega) (by omega) hE
  · intro W b x s hb hi hs hE
    exact regParse B g j b (S s) x W hj hg (hc.below hb) hi (by rw [S_size]; exact hs) hE
  · intro W b x hb hi hx hf
    obtain ⟨n, hn, hn1⟩ := fine_reg hj hx hf
    have := regCode B g j b n W hg (hc.below hb) (by rw [← hn]; exact hi.getN hj) (by omega)
    simp only [Fld.cod, hn, Int.toNat_natCast]
    exact this
  · intro W b x s hb hi hs hE
    exact regDecode B g j b s x W hj hg (hc.below hb) hi hs hE
theorem fits_dist (w0 : World) : Fits w0 .dist distV := by
  refine ⟨_, _, _, _, _, rfl, ⟨enters_of Tryz.func195 (by kernel_rfl) rfl, ?_⟩, ⟨enters_of Tryz.func196 (by kernel_rfl) rfl, ?_⟩, ⟨enters_of Tryz.func197 (by kernel_rfl) rfl, ?_⟩, ⟨enters_of Tryz.func199 (by kernel_rfl) rfl, ?_⟩⟩
  · intro W b x hb hi hx hf hE
    exact distText b x W hi (by have := hx.2.1; omega) (by have := hx.2.1; omega) hE
  · intro W b x s hb hi hs hE
    exact distParse b (S s) x W hi (by rw [S_size]; exact hs) hE
  · intro W b x hb hi hx hf
    exact distCode b x W hi (by have := hx.2.1; omega) (by have := hx.2.1; omega)
  · intro W b x s hb hi hs hE
    exact distDecode b s x W hi hs hE
theorem fits_con (w0 : World) : Fits w0 .con conV := by
  refine ⟨_, _, _, _, _, rfl, ⟨enters_of Tryz.func193 (by kernel_rfl) rfl, ?_⟩, ⟨enters_of Tryz.func190 (by kernel_rfl) rfl, ?_⟩, ⟨enters_of Tryz.func194 (by kernel_rfl) rfl, ?_⟩, ⟨enters_of Tryz.func190 (by kernel_rfl) rfl, ?_⟩⟩
  · intro W b x hb hi hx hf hE
    exact conText b x W hi
  · intro W b x s hb hi hs hE
    exact conTake b s x W hi hs
  · intro W b x hb hi hx hf
    exact conCode b x W hi
  · intro W b x s hb hi hs hE
    exact conTake b s x W hi (by have := (vld_iff.1 hs).1; omega)

/-- the fields of an operation -/
def fldsOf (op : Nat) : List Fld := if op = 0 then [.reg 1, .con] else if op = 2 then [.reg 1, .reg 2, .reg 3] else if op = 5 then [.reg 1, .dist] else [.reg 1, .reg 2]
def FldsAt (w0 : World) (bs : Nat) (fs : List Fld) : Prop :=
  bs < w0.heap.size ∧ ∀ (k : Nat) (f : Fld), fs[k]? = some f → ∃ gt gp gc gd lb, Fits w0 f [.func (.func gt) #[] lb, .func (.func gp) #[] lb, .func (.func gc) #[] lb, .func (.func gd) #[] lb] ∧
    w0.cell? ⟨bs, k * 4, none⟩ = some (.func (.func gt) #[] lb) ∧ w0.cell? ⟨bs, k * 4 + 1, none⟩ = some (.func (.func gp) #[] lb) ∧ w0.cell? ⟨bs, k * 4 + 2, none⟩ = some (.func (.func gc) #[] lb) ∧ w0.cell? ⟨bs, k * 4 + 3, none⟩ = some (.func (.func gd) #[] lb)
theorem FldsAt.below {w0 w1 : World} {bs : Nat} {fs : List Fld} (h : FldsAt w0 bs fs) (hb : Below w0.heap.size w0 w1) : FldsAt w1 bs fs := by
  refine ⟨Nat.lt_of_lt_of_le h.1 hb.size, fun k f hk => ?_⟩
  obtain ⟨gt, gp, gc, gd, lb, hf, c0, c1, c2, c3⟩ := h.2 k f hk
  have e : ∀ o, w1.cell? ⟨bs, o, none⟩ = w0.cell? ⟨bs, o, none⟩ := fun o => hb.cell (p := ⟨bs, o, none⟩) h.1
  exact ⟨gt, gp, gc, gd, lb, hf.below hb, (e _).trans c0, (e _).trans c1, (e _).trans c2, (e _).trans c3⟩
def TabGood (w0 : World) (t : Nat) : Prop :=
  t < w0.heap.size ∧ ∀ k, k < 6 → ∃ bs, w0.cell? ⟨t, k * 2, none⟩ = some (.string (S (nms.getD k []))) ∧ w0.cell? ⟨t, k * 2 + 1, none⟩ = some (.slice (some ⟨bs, 0, none⟩) (fldsOf k).length (fldsOf k).length) ∧ FldsAt w0 bs (fldsOf k)
theorem TabGood.below {w0 w1 : World} {t : Nat} (h : TabGood w0 t) (hb : Below w0.heap.size w0 w1) : TabGood w1 t := by
  refine ⟨Nat.lt_of_lt_of_le h.1 hb.size, fun k hk => ?_⟩
  obtain ⟨bs, c0, c1, hf⟩ := h.2 k hk
  have e : ∀ o, w1.cell? ⟨t, o, none⟩ = w0.cell? ⟨t, o, none⟩ := fun o => hb.cell (p := ⟨t, o, none⟩) h.1
  exact ⟨bs, (e _).trans c0, (e _).trans c1, hf.below hb⟩
theorem flds_two {w : World} {bs : Nat} {f1 f2 : Fld} {v1 v2 : List Value} (h1 : Fits w f1 v1) (h2 : Fits w f2 v2) (hlt : bs < w.heap.size) (hc : ∀ (i : Nat) (x : Value), (v1 ++ v2)[i]? = some x → w.cell? ⟨bs, i, none⟩ = some x) : FldsAt w bs [f1, f2] := by
  refine ⟨hlt, fun k f hk => ?_⟩
  have h1' := h1; have h2' := h2
  obtain ⟨a1, a2, a3, a4, l1, rfl, _⟩ := h1'
  obtain ⟨b1, b2, b3, b4, l2, rfl, _⟩ := h2'
  match k, hk with
  | 0, hk =>
    obtain rfl : f1 = f := by simpa using hk
    exact ⟨_, _, _, _, _, h1, hc 0 _ rfl, hc 1 _ rfl, hc 2 _ rfl, hc 3 _ rfl⟩
  | 1, hk =>
    obtain rfl : f2 = f := by simpa using hk
    exact ⟨_, _, _, _, _, h2, hc 4 _ rfl, hc 5 _ rfl, hc 6 _ rfl, hc 7 _ rfl⟩
  | k + 2, hk => simp at hk
theorem flds_three {w : World} {bs : Nat} {f1 f2 f3 : Fld} {v1 v2 v3 : List Value} (h1 : Fits w f1 v1) (h2 : Fits w f2 v2) (h3 : Fits w f3 v3) (hlt : bs < w.heap.size) (hc : ∀ (i : Nat) (x : Value), (v1 ++ v2 ++ v3)[i]? = some x → w.cell? ⟨bs, i, none⟩ = some x) : FldsAt w bs [f1, f2, f3] := by
  refine ⟨hlt, fun k f hk => ?_⟩
  have h1' := h1; have h2' := h2; have h3' := h3
  obtain ⟨a1, a2, a3, a4, l1, rfl, _⟩ := h1'
  obtain ⟨b1, b2, b3, b4, l2, rfl, _⟩ := h2'
  obtain ⟨d1, d2, d3, d4, l3, rfl, _⟩ := h3'
  match k, hk with
  | 0, hk =>
    obtain rfl : f1 = f := by simpa using hk
    exact ⟨_, _, _, _, _, h1, hc 0 _ rfl, hc 1 _ rfl, hc 2 _ rfl, hc 3 _ rfl⟩
  | 1, hk =>
    obtain rfl : f2 = f := by simpa using hk
    exact ⟨_, _, _, _, _, h2, hc 4 _ rfl, hc 5 _ rfl, hc 6 _ rfl, hc 7 _ rfl⟩
  | 2, hk =>
    obtain rfl : f3 = f := by simpa using hk
    exact ⟨_, _, _, _, _, h3, hc 8 _ rfl, hc 9 _ rfl, hc 10 _ rfl, hc 11 _ rfl⟩
  | k + 3, hk => simp at hk
theorem TabAt.good {w : World} {t bA bB bC : Nat} (h : TabAt w t bA bB bC) : TabGood w t := by
  obtain ⟨kA, kB, kC, ht, s0, s1, s2, s3, s4, s5, g0, g1, g2, g3, g4, g5, c0, c1, c2, c3, c4, c5, c6, c7, c8, c9, c10, c11⟩ := h
  have fA := fits_reg w bA _ 1 (by simp) atA kA
  have fB := fits_reg w bB _ 2 (by simp) atB kB
  have fC := fits_reg w bC _ 3 (by simp) atC kC
  refine ⟨ht, fun k hk => ?_⟩
  obtain ⟨b0, rfl, l0, h0⟩ := g0
  obtain ⟨b1, rfl, l1, h1⟩ := g1
  obtain ⟨b2, rfl, l2, h2⟩ := g2
  obtain ⟨b3, rfl, l3, h3⟩ := g3
  obtain ⟨b4, rfl, l4, h4⟩ := g4
  obtain ⟨b5, rfl, l5, h5⟩ := g5
  have hk6 : k = 0 ∨ k = 1 ∨ k = 2 ∨ k = 3 ∨ k = 4 ∨ k = 5 := by omega
  rcases hk6 with rfl | rfl | rfl | rfl | rfl | rfl
  · exact ⟨b0, c0, c1, flds_two fA (fits_con w) l0 h0⟩
  · exact ⟨b1, c2, c3, flds_two fA fB l1 h1⟩
  · exact ⟨b2, c4, c5, flds_three fA fB fC l2 h2⟩
  · exact ⟨b3, c6, c7, flds_two fA fB l3 h3⟩
  · exact ⟨b4, c8, c9, flds_two fA fB l4 h4⟩
  · exact ⟨b5, c10, c11, flds_two fA (fits_dist w) l5 h5⟩
theorem operations_good (w : World) :
    Calls Tryz.prog 93 #[] w fun e w' => ∃ t, e = .returned (.pointer (some ⟨t, 0, none⟩)) ∧ TabGood w' t ∧ Below w.heap.size w w' :=
  (operations_any w).mono fun e w' h => by
    obtain ⟨t, bA, bB, bC, he, hT, hb⟩ := h
    exact ⟨t, he, hT.good, hb⟩
end Go.Proofs.YtmhoacnbmbhcjaaGreatDoor

namespace Go.Proofs.YtmhoacnbmbhcjaaGreatDoor
open Go.RowKit Pl

def nestT : List (List UInt8) → List UInt8
  | [] => []
  | [z] => z
  | x :: xs => pr x (nestT xs)
theorem nestT_snoc (xs : List (List UInt8)) (z : List UInt8) : nestT (xs ++ [z]) = nestL xs z := by
  induction xs with
  | nil => rfl
  | cons x xs ih =>
    cases xs with
    | nil => rfl
    | cons y ys => rw [List.cons_append, List.cons_append, nestT, ← List.cons_append, ih]; rfl; intro h; cases h
/-- the trees of which an instruction's code is nested -/
def treesOf (x : Ins) (k : Nat) : List (List UInt8) := num k :: (fldsOf k).map (Fld.cod x)
theorem flds_len (k : Nat) : (fldsOf k).length ≤ 3 := by
  unfold fldsOf
  repeat' split
  all_goals simp
theorem InAt.keep {w w1 : World} {b : Nat} {x : Ins} (h : InAt w b x) (hb : Below (b + 1) w w1) : InAt w1 b x :=
  ⟨Nat.lt_of_lt_of_le h.lt hb.size, (hb.cell (p := ⟨b, 0, none⟩) (Nat.lt_succ_self _)).trans h.c0, (hb.cell (p := ⟨b, 1, none⟩) (Nat.lt_succ_self _)).trans h.c1, (hb.cell (p := ⟨b, 2, none⟩) (Nat.lt_succ_self _)).trans h.c2, (hb.cell (p := ⟨b, 3, none⟩) (Nat.lt_succ_self _)).trans h.c3, (hb.cell (p := ⟨b, 4, none⟩) (Nat.lt_succ_self _)).trans h.c4, fun k => (hb.frozen (p := ⟨b, k, none⟩) (Nat.lt_succ_self _)).trans (h.fz k)⟩
theorem boxIn (w : World) (x : Ins) (ty : TypeId) : InAt (w.alloc (.cells #[.int .i64 x.op, .int .i64 x.a, .int .i64 x.b, .int .i64 x.c, .string (S x.tree)] ty)) w.heap.size x := by
  have h := RowCells.new w [.int .i64 x.op, .int .i64 x.a, .int .i64 x.b, .int .i64 x.c, .string (S x.tree)] ty
  exact ⟨h.1, h.2 0 _ rfl, h.2 1 _ rfl, h.2 2 _ rfl, h.2 3 _ rfl, h.2 4 _ rfl, fun k => by simp only [World.frozen?, heap_alloc_new]; simp⟩

set_option maxHeartbeats 3200000 in
set_option maxRecDepth 100000 in
theorem mcode (t k : Nat) (x : Ins) (w : World) (hT : TabGood w t) (hk : k < 6) (ho : x.op = k) (hx : Fine x) (hf : ∀ f ∈ fldsOf k, f.fits x) (hvl : ∀ f ∈ fldsOf k, vld (f.cod x) = true) :
    Calls Tryz.prog 94 #[.pointer (some ⟨t, 0, none⟩), .agg #[.int .i64 k, .int .i64 x.a, .int .i64 x.b, .int .i64 x.c, .string (S x.tree)]] w fun e w' => (((nestT (treesOf x k)).length ≤ 2000000 ∧ e = .returned (.tuple #[.string (S (nestT (treesOf x k))), .int .i64 0])) ∨ (2000000 < (nestT (treesOf x k)).length ∧ e = .returned (.tuple #[.string (S []), .int .i64 3]))) ∧ Below w.heap.size w w' := by
  have HVL := Lib.hid hvl; clear hvl
  obtain ⟨cs, hcs⟩ : ∃ cs, cs = (fldsOf k).map (Fld.cod x) := ⟨_, rfl⟩
  have hcl : cs.length = (fldsOf k).length := by rw [hcs]; simp
  have HTR : Hid (treesOf x k = num k :: cs) := Lib.hid (by rw [hcs]; rfl)
  have HCS := Lib.hid hcs
  clear hcs
  obtain ⟨i0, hi, hz0, hz1, hz2⟩ := info_parts Tryz.infoStr
  obtain ⟨bs, c0, c1, hF⟩ := hT.2 k hk
  have hI := boxIn w x 64
  rw [ho] at hI
  have HI := Lib.hid hI; have HF := Lib.hid hF; have HX := Lib.hid hx; have HT := Lib.hid hT
  have htl := hT.1
  generalize hN : (fldsOf k).length = n at *
  have HN := Lib.hid hN
  have HCL := Lib.hid hcl
  clear hcl
  have HO : Hid (x.op = k) := Lib.hid ho
  have hn3 : n ≤ 3 := by rw [← hN]; exact flds_len k
  have hk0 : (0 : Int) ≤ k := by omega
  have hk1 : (k : Int) < 6 := by omega
  have hwp : Hid (w.heap.size < (w.alloc (.cells #[.int .i64 k, .int .i64 x.a, .int .i64 x.b, .int .i64 x.c, .string (S x.tree)] 64)).heap.size) := Lib.hid (by simp)
  clear hI hF hx hT hN ho
  go_enter Tryz.func94, Tryz.ntmps94
  go_wp2_with fail
  refine (codeNumber_yes k _ (by omega)).mono ?_
  rintro e w1 ⟨rfl, h1⟩
  have i1 := Lib.hid (HI.out.below h1)
  have hb1 : Below w.heap.size w w1 := ((Below.refl w.heap.size w).alloc (Nat.le_refl _) _).trans (h1.mono (by simp))
  have q0 := i1.out.c0
  have hs1 := hb1.size
  have q1 := (hb1.cell (p := ⟨t, k * 2 + 1, none⟩) htl).trans c1
  have hw1 : w.heap.size < w1.heap.size := i1.out.lt
  go_wp2_with fail
  have e0 : (w1.alloc (.cells #[.string (S (num k))] 9)).cell? ⟨w.heap.size, 0, none⟩ = some (.int .i64 k) := by
    rw [World.cell?_alloc_old _ _ _ (Nat.ne_of_lt hw1)]; rw [q0, HO.out]
  have e1 : (w1.alloc (.cells #[.string (S (num k))] 9)).cell? ⟨t, k * 2 + 1, none⟩ = some (.slice (some ⟨bs, 0, none⟩) n n) := by
    rw [World.cell?_alloc_old _ _ _ (by show t ≠ _; omega)]; exact q1
  go_quiet (fail)
  have hB1 : Below w.heap.size w ((w1.alloc (.cells #[.string (S (num k))] 9)).drewN nq) := below_drewN (hb1.alloc hs1 _) nq
  have hI1 : InAt ((w1.alloc (.cells #[.string (S (num k))] 9)).drewN nq) w.heap.size x := i1.out.below (below_drewN ((Below.refl _ _).alloc (Nat.le_refl _) _) nq)
  have hO1 : ((w1.alloc (.cells #[.string (S (num k))] 9)).drewN nq).ownsRow (w.heap.size + 1) 9 1 (.slice (some ⟨w1.heap.size, 0, none⟩) 1 1) 1 [.string (S (num k))] := own_keep (World.ownsRow_lit w1 #[.string (S (num k))] 1 hw1 (by decide) rfl) (below_drewN (Below.refl _ _) nq)
  generalize (w1.alloc (.cells #[.string (S (num k))] 9)).drewN nq = W1 at *
  clear e0 e1 q0 q1 i1 hb1 hs1 hw1 h1
  go_wp2
  go_loopw [6, 21] (fun v i wr => ∃ j : Nat, j ≤ n ∧ i = .int .i64 j ∧ wr.ownsRow (w.heap.size + 1) 9 1 v (j + 1) (strsV (num k :: cs.take j)) ∧ Below w.heap.size w wr ∧ InAt wr w.heap.size x) (fun _ i _ => n - (intOf i).toNat)
  case atStart => exact ⟨0, Nat.zero_le _, rfl, hO1, hB1, hI1⟩
  case round =>
    obtain ⟨j, hj, rfl, hown, hb, hin⟩ := hrel
    have hsz := hb.size
    by_cases hlt : j < n
    · obtain ⟨f, hfj⟩ : ∃ f, (fldsOf k)[j]? = some f := ⟨(fldsOf k)[j]'(by have := HN.out; omega), List.getElem?_eq_getElem _⟩
      obtain ⟨gt, gp, gc, gd, lb, hfit, d0, d1, d2, d3⟩ := HF.out.2 j f hfj
      have hbl := HF.out.1
      have k0 := (hb.cell (p := ⟨bs, j * 4, none⟩) hbl).trans d0
      have k1 := (hb.cell (p := ⟨bs, j * 4 + 1, none⟩) hbl).trans d1
      have k2 := (hb.cell (p := ⟨bs, j * 4 + 2, none⟩) hbl).trans d2
      have k3 := (hb.cell (p := ⟨bs, j * 4 + 3, none⟩) hbl).trans d3
      clear d0 d1 d2 d3
      obtain ⟨gt', gp', gc', gd', lb', e, hT', hP', hC', hD'⟩ := hfit
      cases e
      have eg := hC'.1
      have HFJ := Lib.hid hfj; have HFT := Lib.hid hC'.2; have HFI := Lib.hid (hf f (List.mem_of_getElem? hfj))
      clear hfj hT' hP' hC' hD'
      have hj1 : (j : Int) < (n : Int) := by omega
      go_wp2_with fail
      have hin1 : InAt (wr.alloc (.cells #[.func (.func gt) #[] lb, .func (.func gp) #[] lb, .func (.func gc) #[] lb, .func (.func gd) #[] lb] 165)) w.heap.size x := hin.below ((Below.refl _ _).alloc (Nat.le_refl _) _)
      refine (HFT.out _ w.heap.size x (hb.alloc hsz _) hin1 HX.out HFI.out).mono ?_
      rintro e w2 ⟨rfl, h2⟩
      have hB2 : Below wr.heap.size wr w2 := ((Below.refl _ _).alloc (Nat.le_refl _) _).trans (h2.mono (by simp))
      have hin2 := Lib.hid (hin.below hB2)
      have hown2 := own_keep hown hB2
      have hsz2 := hB2.size
      have hb2 := hb.trans (hB2.mono hsz)
      clear h2 hB2 hin1 hown
      go_wp2_with (at_builtin; refine wpList_append_own _ rfl _ _ 100 rfl (w.heap.size + 1) 9 i0 (.string ⟨#[]⟩) 1 16 Tryz.underlying100 hi hz0 hz1 hz2 rfl (by decide) _ _ _ rfl (hown2.alloc _) ⟨w2.heap.size, 0, none⟩ 1 1 [.string (S (f.cod x))] rfl rfl ?c1 ?c2 ?c3 ?c4 ?c5 ?_)
      case c1 =>
        intro t u ht
        match t, ht with
        | 0, ht => simp at ht; subst ht; simp [Addr.add]
      case c2 => intro u hu; simp at hu; subst hu; rfl
      case c3 => unfold maxLen; omega
      case c4 => omega
      case c5 => have := hin2.out.lt; simp; omega
      intro v' w3 hown' hgrow _
      have hb3 := app_below (Below.refl (w.heap.size + 1) w2) (by have := hin2.out.lt; omega) hown2 hgrow
      have hin3 := Lib.hid (hin2.out.keep hb3)
      have hb4 := hb2.trans (hb3.mono (by omega))
      have ho : w3.ownsRow (w.heap.size + 1) 9 1 v' (j + 1 + 1) (strsV (num k :: cs.take (j + 1))) := by
        have hjl : j < cs.length := by have := HCL.out; omega
        have hje : cs[j] = f.cod x := by
          have h1 : cs[j]? = some (f.cod x) := by rw [HCS.out, List.getElem?_map, HFJ.out]; rfl
          exact (List.getElem?_eq_some_iff.1 h1).2
        rw [List.take_succ_eq_append_getElem hjl, hje, ← List.cons_append, strsV_snoc]; exact hown'
      have HO3 := Lib.hid ho
      clear ho hown' hgrow hown2 hb2 hb3 hb
      go_wp2
      go_roundw
      case rel => exact ⟨j + 1, by omega, by go_num, HO3.out, hb4, hin3.out⟩
      case measure => simp [intOf]; omega
    · obtain rfl : j = n := by omega
      have ht : cs.take j = cs := List.take_of_length_le (by have := HCL.out; omega)
      rw [ht] at hown
      obtain ⟨g, cap, rfl, hcap, hg0, hg⟩ := own_cap hown (by omega)
      obtain ⟨xs, z, hxz⟩ : ∃ xs z, num k :: cs = xs ++ [z] := ⟨(num k :: cs).dropLast, (num k :: cs).getLast (by simp), (List.dropLast_concat_getLast (by simp)).symm⟩
      have hxl : xs.length = j := by
        have h1 := congrArg List.length hxz
        have := HCL.out
        simp at h1; omega
      have hall : ∀ y ∈ xs ++ [z], vld y = true := by
        rw [← hxz]
        intro y hy
        rcases List.mem_cons.1 hy with rfl | hy
        · exact num_vld (by omega)
        · rw [HCS.out] at hy
          obtain ⟨f, hf1, rfl⟩ := List.mem_map.1 hy
          exact HVL.out f hf1
      rw [hxz] at hown
      have hcell : ∀ i, i < j + 1 → wr.cell? ⟨g, i, none⟩ = (strsV (xs ++ [z]))[i]? := fun i hi => hown.cellAt i (by omega)
      have HQ := Lib.hid (nest_any g cap xs z (by omega) (fun y hy => hall y (by simp [hy])) (hall z (by simp)) wr hg (by omega)
        (fun i hi => by rw [hcell i (by omega)]; simp only [strsV, List.map_append, List.getElem?_append_left (show i < (xs.map fun l => Value.string (S l)).length by simpa using hi), List.getElem?_map, List.getElem?_eq_getElem hi]; rfl)
        (by rw [hcell _ (by omega)]; simp [strsV]))
      have HXL := Lib.hid hxl; have HXZ := Lib.hid hxz
      clear hown hcell hall hxl hxz ht
      have HQ2 : Hid (Calls Tryz.prog 150 #[.slice (some ⟨g, 0, none⟩) (j + 1) cap] wr fun e W' => (((nestT (treesOf x k)).length ≤ 2000000 ∧ e = .returned (.tuple #[.string (S (nestT (treesOf x k))), .int .i64 0])) ∨ (2000000 < (nestT (treesOf x k)).length ∧ e = .returned (.tuple #[.string (S []), .int .i64 3]))) ∧ Below wr.heap.size wr W') := Lib.hid (by
        have h := HQ.out
        rw [HXL.out, ← nestT_snoc, ← HXZ.out, ← HTR.out] at h
        exact h)
      clear HQ HXL HXZ HTR HCS HVL
      go_wp2_with fail
      refine HQ2.out.mono ?_
      rintro e w5 ⟨⟨hz, rfl⟩ | ⟨hz, rfl⟩, h5⟩
      · have HZ := Lib.hid hz; clear hz
        have hb5 := hb.trans (h5.mono hsz)
        go_wp2
        go_ret2
        exact ⟨.inl ⟨HZ.out, rfl⟩, hb5⟩
      · have HZ := Lib.hid hz; clear hz
        have hb5 := hb.trans (h5.mono hsz)
        go_wp2
        go_ret2
        exact ⟨.inr ⟨HZ.out, rfl⟩, hb5⟩
end Go.Proofs.YtmhoacnbmbhcjaaGreatDoor

namespace Go.Proofs.YtmhoacnbmbhcjaaGreatDoor
open Go.RowKit Pl

/-- the words of an instruction's string -/
def wordsOf (x : Ins) (k : Nat) : List (List UInt8) := nms.getD k [] :: (fldsOf k).map (Fld.txt x)
def textM (x : Ins) (k : Nat) : List UInt8 := Lib.join (wordsOf x k) [32]

end Go.Proofs.YtmhoacnbmbhcjaaGreatDoor
