/- The fields of the table, each by what its four functions do. By an AI agent. -/
import Derived.Test.YtlfoigkpfooopaaGreatDoorFns
namespace Go.Proofs.YtlfoigkpfooopaaGreatDoor
open Go.RowKit Pl

inductive Fld
  | reg (j : Nat)
  | dist
  | con
def Fld.txt (x : Ins) : Fld → List UInt8
  | .reg j => Lib.itoa (x.getN j)
  | .dist => Lib.itoa x.b
  | .con => x.tree
def Fld.cod (x : Ins) : Fld → List UInt8
  | .reg j => num (x.getN j).toNat
  | .dist => cd x.b
  | .con => x.tree
def Fld.par (s : List UInt8) (x : Ins) : Fld → Option Ins
  | .reg j => (pn s).map fun v => x.setN j v
  | .dist => (pn s).map fun v => x.setN 2 v
  | .con => if vld s = true then some { x with tree := s } else none
def Fld.dec (s : List UInt8) (x : Ins) : Fld → Option Ins
  | .reg j => (DNum s).map fun v => x.setN j v
  | .dist => (dd s).map fun v => x.setN 2 v
  | .con => if vld s = true then some { x with tree := s } else none
/-- the numbers that a field is written with are small -/
def Fine (x : Ins) : Prop := (0 ≤ x.a ∧ x.a ≤ 99999) ∧ (-99999 ≤ x.b ∧ x.b ≤ 99999) ∧ (0 ≤ x.c ∧ x.c ≤ 99999)
def Fld.fits (x : Ins) : Fld → Prop
  | .reg 2 => 0 ≤ x.b
  | _ => True
def InstrT (gt : Nat) (lb : Array Value) (w0 : World) (f : Fld) : Prop :=
  (∀ args w, (callFunc gt args).run Tryz.prog w = .ok (.enter gt args) w) ∧
  ∀ (W : World) (b : Nat) (x : Ins), Below w0.heap.size w0 W → InAt W b x → Fine x → f.fits x → Env W → Calls Tryz.prog gt (#[.pointer (some ⟨b, 0, none⟩)] ++ lb) W fun e w' => e = .returned (.string (S (f.txt x))) ∧ Below W.heap.size W w'
def InstrC (gc : Nat) (lb : Array Value) (w0 : World) (f : Fld) : Prop :=
  (∀ args w, (callFunc gc args).run Tryz.prog w = .ok (.enter gc args) w) ∧
  ∀ (W : World) (b : Nat) (x : Ins), Below w0.heap.size w0 W → InAt W b x → Fine x → f.fits x → Calls Tryz.prog gc (#[.pointer (some ⟨b, 0, none⟩)] ++ lb) W fun e w' => e = .returned (.string (S (f.cod x))) ∧ Below W.heap.size W w'
def InstrP (gp : Nat) (lb : Array Value) (w0 : World) (f : Fld) : Prop :=
  (∀ args w, (callFunc gp args).run Tryz.prog w = .ok (.enter gp args) w) ∧
  ∀ (W : World) (b : Nat) (x : Ins) (s : List UInt8), Below w0.heap.size w0 W → InAt W b x → s.length ≤ 281474976710656 → Env W → Calls Tryz.prog gp (#[.pointer (some ⟨b, 0, none⟩), .string (S s)] ++ lb) W (FPost b W (f.par s x))
def InstrD (gd : Nat) (lb : Array Value) (w0 : World) (f : Fld) : Prop :=
  (∀ args w, (callFunc gd args).run Tryz.prog w = .ok (.enter gd args) w) ∧
  ∀ (W : World) (b : Nat) (x : Ins) (s : List UInt8), Below w0.heap.size w0 W → InAt W b x → vld s = true → Env W → Calls Tryz.prog gd (#[.pointer (some ⟨b, 0, none⟩), .string (S s)] ++ lb) W (FPost b W (f.dec s x))
/-- the four cells hold functions that do what the field's are to do, in every later world -/
def Fits (w0 : World) (f : Fld) (cs : List Value) : Prop :=
  ∃ gt gp gc gd lb, cs = [.func (.func gt) #[] lb, .func (.func gp) #[] lb, .func (.func gc) #[] lb, .func (.func gd) #[] lb] ∧ InstrT gt lb w0 f ∧ InstrP gp lb w0 f ∧ InstrC gc lb w0 f ∧ InstrD gd lb w0 f
theorem later {w0 w1 W : World} (h : Below w0.heap.size w0 w1) (hb : Below w1.heap.size w1 W) : Below w0.heap.size w0 W := h.trans (hb.mono h.size)
theorem Fits.below {w0 w1 : World} {f : Fld} {cs : List Value} (h : Fits w0 f cs) (hb : Below w0.heap.size w0 w1) : Fits w1 f cs := by
  obtain ⟨gt, gp, gc, gd, lb, e, h1, h2, h3, h4⟩ := h
  exact ⟨gt, gp, gc, gd, lb, e, ⟨h1.1, fun W b x k => h1.2 W b x (later hb k)⟩, ⟨h2.1, fun W b x s k => h2.2 W b x s (later hb k)⟩, ⟨h3.1, fun W b x k => h3.2 W b x (later hb k)⟩, ⟨h4.1, fun W b x s k => h4.2 W b x s (later hb k)⟩⟩
theorem fine_reg {x : Ins} {j : Nat} (hj : j = 1 ∨ j = 2 ∨ j = 3) (h : Fine x) (hf : (Fld.reg j).fits x) : ∃ n : Nat, x.getN j = n ∧ n ≤ 99999 := by
  obtain ⟨h1, h2, h3⟩ := h
  rcases hj with rfl | rfl | rfl
  · exact ⟨x.a.toNat, by simp [Ins.getN]; omega, by omega⟩
  · have : 0 ≤ x.b := hf
    exact ⟨x.b.toNat, by simp [Ins.getN]; omega, by omega⟩
  · exact ⟨x.c.toNat, by simp [Ins.getN]; omega, by omega⟩
theorem fits_reg (w0 : World) (B g j : Nat) (hj : j = 1 ∨ j = 2 ∨ j = 3) (hg : AtFn g j) (hc : CapAt w0 B g) : Fits w0 (.reg j) (regV B) := by
  refine ⟨_, _, _, _, _, rfl, ⟨enters_of Tryz.func79 (by kernel_rfl) rfl, ?_⟩, ⟨enters_of Tryz.func81 (by kernel_rfl) rfl, ?_⟩, ⟨enters_of Tryz.func84 (by kernel_rfl) rfl, ?_⟩, ⟨enters_of Tryz.func85 (by kernel_rfl) rfl, ?_⟩⟩
  · intro W b x hb hi hx hf hE
    obtain ⟨n, hn, hn1⟩ := fine_reg hj hx hf
    exact regText B g j b (x.getN j) W hg (hc.below hb) (hi.getN hj) (by omega) (by omega) hE
  · intro W b x s hb hi hs hE
    exact regParse B g j b (S s) x W hj hg (hc.below hb) hi (by rw [S_size]; exact hs) hE
  · intro W b x hb hi hx hf
    obtain ⟨n, hn, hn1⟩ := fine_reg hj hx hf
    have := regCode B g j b n W hg (hc.below hb) (by rw [← hn]; exact hi.getN hj) (by omega)
    simp only [Fld.cod, hn, Int.toNat_natCast]
    exact this
  · intro W b x s hb hi hs hE
    exact regDecode B g j b s x W hj hg (hc.below hb) hi hs hE
theorem fits_dist (w0 : World) : Fits w0 .dist distV := by
  refine ⟨_, _, _, _, _, rfl, ⟨enters_of Tryz.func91 (by kernel_rfl) rfl, ?_⟩, ⟨enters_of Tryz.func92 (by kernel_rfl) rfl, ?_⟩, ⟨enters_of Tryz.func93 (by kernel_rfl) rfl, ?_⟩, ⟨enters_of Tryz.func95 (by kernel_rfl) rfl, ?_⟩⟩
  · intro W b x hb hi hx hf hE
    exact distText b x W hi (by have := hx.2.1; omega) (by have := hx.2.1; omega) hE
  · intro W b x s hb hi hs hE
    exact distParse b (S s) x W hi (by rw [S_size]; exact hs) hE
  · intro W b x hb hi hx hf
    exact distCode b x W hi (by have := hx.2.1; omega) (by have := hx.2.1; omega)
  · intro W b x s hb hi hs hE
    exact distDecode b s x W hi hs hE
theorem fits_con (w0 : World) : Fits w0 .con conV := by
  refine ⟨_, _, _, _, _, rfl, ⟨enters_of Tryz.func89 (by kernel_rfl) rfl, ?_⟩, ⟨enters_of Tryz.func86 (by kernel_rfl) rfl, ?_⟩, ⟨enters_of Tryz.func90 (by kernel_rfl) rfl, ?_⟩, ⟨enters_of Tryz.func86 (by kernel_rfl) rfl, ?_⟩⟩
  · intro W b x hb hi hx hf hE
    exact conText b x W hi
  · intro W b x s hb hi hs hE
    exact conTake b s x W hi hs
  · intro W b x hb hi hx hf
    exact conCode b x W hi
  · intro W b x s hb hi hs hE
    exact conTake b s x W hi (by have := (vld_iff.1 hs).1; omega)

/-- the fields of an operation -/
def fldsOf (op : Nat) : List Fld := if op = 0 then [.reg 1, .con] else if op = 2 then [.reg 1, .reg 2, .reg 3] else if op = 5 then [.reg 1, .dist] else [.reg 1, .reg 2]
def FldsAt (w0 : World) (bs : Nat) (fs : List Fld) : Prop :=
  bs < w0.heap.size ∧ ∀ (k : Nat) (f : Fld), fs[k]? = some f → ∃ gt gp gc gd lb, Fits w0 f [.func (.func gt) #[] lb, .func (.func gp) #[] lb, .func (.func gc) #[] lb, .func (.func gd) #[] lb] ∧
    w0.cell? ⟨bs, k * 4, none⟩ = some (.func (.func gt) #[] lb) ∧ w0.cell? ⟨bs, k * 4 + 1, none⟩ = some (.func (.func gp) #[] lb) ∧ w0.cell? ⟨bs, k * 4 + 2, none⟩ = some (.func (.func gc) #[] lb) ∧ w0.cell? ⟨bs, k * 4 + 3, none⟩ = some (.func (.func gd) #[] lb)
theorem FldsAt.below {w0 w1 : World} {bs : Nat} {fs : List Fld} (h : FldsAt w0 bs fs) (hb : Below w0.heap.size w0 w1) : FldsAt w1 bs fs := by
  refine ⟨Nat.lt_of_lt_of_le h.1 hb.size, fun k f hk => ?_⟩
  obtain ⟨gt, gp, gc, gd, lb, hf, c0, c1, c2, c3⟩ := h.2 k f hk
  have e : ∀ o, w1.cell? ⟨bs, o, none⟩ = w0.cell? ⟨bs, o, none⟩ := fun o => hb.cell (p := ⟨bs, o, none⟩) h.1
  exact ⟨gt, gp, gc, gd, lb, hf.below hb, (e _).trans c0, (e _).trans c1, (e _).trans c2, (e _).trans c3⟩
def TabGood (w0 : World) (t : Nat) : Prop :=
  t < w0.heap.size ∧ ∀ k, k < 6 → ∃ bs, w0.cell? ⟨t, k * 2, none⟩ = some (.string (S (nms.getD k []))) ∧ w0.cell? ⟨t, k * 2 + 1, none⟩ = some (.slice (some ⟨bs, 0, none⟩) (fldsOf k).length (fldsOf k).length) ∧ FldsAt w0 bs (fldsOf k)
theorem TabGood.below {w0 w1 : World} {t : Nat} (h : TabGood w0 t) (hb : Below w0.heap.size w0 w1) : TabGood w1 t := by
  refine ⟨Nat.lt_of_lt_of_le h.1 hb.size, fun k hk => ?_⟩
  obtain ⟨bs, c0, c1, hf⟩ := h.2 k hk
  have e : ∀ o, w1.cell? ⟨t, o, none⟩ = w0.cell? ⟨t, o, none⟩ := fun o => hb.cell (p := ⟨t, o, none⟩) h.1
  exact ⟨bs, (e _).trans c0, (e _).trans c1, hf.below hb⟩
theorem flds_two {w : World} {bs : Nat} {f1 f2 : Fld} {v1 v2 : List Value} (h1 : Fits w f1 v1) (h2 : Fits w f2 v2) (hlt : bs < w.heap.size) (hc : ∀ (i : Nat) (x : Value), (v1 ++ v2)[i]? = some x → w.cell? ⟨bs, i, none⟩ = some x) : FldsAt w bs [f1, f2] := by
  refine ⟨hlt, fun k f hk => ?_⟩
  have h1' := h1; have h2' := h2
  obtain ⟨a1, a2, a3, a4, l1, rfl, _⟩ := h1'
  obtain ⟨b1, b2, b3, b4, l2, rfl, _⟩ := h2'
  match k, hk with
  | 0, hk =>
    obtain rfl : f1 = f := by simpa using hk
    exact ⟨_, _, _, _, _, h1, hc 0 _ rfl, hc 1 _ rfl, hc 2 _ rfl, hc 3 _ rfl⟩
  | 1, hk =>
    obtain rfl : f2 = f := by simpa using hk
    exact ⟨_, _, _, _, _, h2, hc 4 _ rfl, hc 5 _ rfl, hc 6 _ rfl, hc 7 _ rfl⟩
  | k + 2, hk => simp at hk
theorem flds_three {w : World} {bs : Nat} {f1 f2 f3 : Fld} {v1 v2 v3 : List Value} (h1 : Fits w f1 v1) (h2 : Fits w f2 v2) (h3 : Fits w f3 v3) (hlt : bs < w.heap.size) (hc : ∀ (i : Nat) (x : Value), (v1 ++ v2 ++ v3)[i]? = some x → w.cell? ⟨bs, i, none⟩ = some x) : FldsAt w bs [f1, f2, f3] := by
  refine ⟨hlt, fun k f hk => ?_⟩
  have h1' := h1; have h2' := h2; have h3' := h3
  obtain ⟨a1, a2, a3, a4, l1, rfl, _⟩ := h1'
  obtain ⟨b1, b2, b3, b4, l2, rfl, _⟩ := h2'
  obtain ⟨d1, d2, d3, d4, l3, rfl, _⟩ := h3'
  match k, hk with
  | 0, hk =>
    obtain rfl : f1 = f := by simpa using hk
    exact ⟨_, _, _, _, _, h1, hc 0 _ rfl, hc 1 _ rfl, hc 2 _ rfl, hc 3 _ rfl⟩
  | 1, hk =>
    obtain rfl : f2 = f := by simpa using hk
    exact ⟨_, _, _, _, _, h2, hc 4 _ rfl, hc 5 _ rfl, hc 6 _ rfl, hc 7 _ rfl⟩
  | 2, hk =>
    obtain rfl : f3 = f := by simpa using hk
    exact ⟨_, _, _, _, _, h3, hc 8 _ rfl, hc 9 _ rfl, hc 10 _ rfl, hc 11 _ rfl⟩
  | k + 3, hk => simp at hk
theorem TabAt.good {w : World} {t bA bB bC : Nat} (h : TabAt w t bA bB bC) : TabGood w t := by
  obtain ⟨kA, kB, kC, ht, s0, s1, s2, s3, s4, s5, g0, g1, g2, g3, g4, g5, c0, c1, c2, c3, c4, c5, c6, c7, c8, c9, c10, c11⟩ := h
  have fA := fits_reg w bA _ 1 (by simp) atA kA
  have fB := fits_reg w bB _ 2 (by simp) atB kB
  have fC := fits_reg w bC _ 3 (by simp) atC kC
  refine ⟨ht, fun k hk => ?_⟩
  obtain ⟨b0, rfl, l0, h0⟩ := g0
  obtain ⟨b1, rfl, l1, h1⟩ := g1
  obtain ⟨b2, rfl, l2, h2⟩ := g2
  obtain ⟨b3, rfl, l3, h3⟩ := g3
  obtain ⟨b4, rfl, l4, h4⟩ := g4
  obtain ⟨b5, rfl, l5, h5⟩ := g5
  have hk6 : k = 0 ∨ k = 1 ∨ k = 2 ∨ k = 3 ∨ k = 4 ∨ k = 5 := by omega
  rcases hk6 with rfl | rfl | rfl | rfl | rfl | rfl
  · exact ⟨b0, c0, c1, flds_two fA (fits_con w) l0 h0⟩
  · exact ⟨b1, c2, c3, flds_two fA fB l1 h1⟩
  · exact ⟨b2, c4, c5, flds_three fA fB fC l2 h2⟩
  · exact ⟨b3, c6, c7, flds_two fA fB l3 h3⟩
  · exact ⟨b4, c8, c9, flds_two fA fB l4 h4⟩
  · exact ⟨b5, c10, c11, flds_two fA (fits_dist w) l5 h5⟩
theorem operations_good (w : World) :
    Calls Tryz.prog 28 #[] w fun e w' => ∃ t, e = .returned (.pointer (some ⟨t, 0, none⟩)) ∧ TabGood w' t ∧ Below w.heap.size w w' :=
  (operations_any w).mono fun e w' h => by
    obtain ⟨t, bA, bB, bC, he, hT, hb⟩ := h
    exact ⟨t, he, hT.good, hb⟩
end Go.Proofs.YtlfoigkpfooopaaGreatDoor
