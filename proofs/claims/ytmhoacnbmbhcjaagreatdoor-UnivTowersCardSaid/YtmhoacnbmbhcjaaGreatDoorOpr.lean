/- The table's parts: register, distance, constant as function values. By an AI agent. -/
import Derived.Test.YtmhoacnbmbhcjaaGreatDoorRegionInv
import Derived.Test.YtmhoacnbmbhcjaaGreatDoorCodeMath
import Derived.Test.YtmhoacnbmbhcjaaGreatDoorWds
import Derived.Laws.EntriesVeiled
import Derived.Deep.DeepCutAuto
import Derived.Deep.AppendLies
namespace Go.Proofs.YtmhoacnbmbhcjaaGreatDoor
open Go.RowKit Pl

/-- the four functions of a field that was made of a function at -/
def regV (B : Nat) : List Value := [.func (.func 184) #[] #[.pointer (some ⟨B, 0, none⟩)], .func (.func 185) #[] #[.pointer (some ⟨B, 0, none⟩)], .func (.func 188) #[] #[.pointer (some ⟨B, 0, none⟩)], .func (.func 189) #[] #[.pointer (some ⟨B, 0, none⟩)]]
def conV : List Value := [.func (.func 193) #[] #[], .func (.func 190) #[] #[], .func (.func 194) #[] #[], .func (.func 190) #[] #[]]
def distV : List Value := [.func (.func 195) #[] #[], .func (.func 196) #[] #[], .func (.func 197) #[] #[], .func (.func 199) #[] #[]]

theorem constant_any (w : World) :
    Calls Tryz.prog 147 #[] w fun e w' => e = .returned (.agg conV.toArray) ∧ Below w.heap.size w w' := by
  go_enter Tryz.func147, Tryz.ntmps147
  go_wp2
  exact bodyPost_ret (v := .agg conV.toArray) (by simp [results, Tryz.results147, go_sem, conV]) rfl ⟨rfl, (Below.refl _ _).alloc (Nat.le_refl _) _⟩
theorem distance_any (w : World) :
    Calls Tryz.prog 148 #[] w fun e w' => e = .returned (.agg distV.toArray) ∧ Below w.heap.size w w' := by
  go_enter Tryz.func148, Tryz.ntmps148
  go_wp2
  exact bodyPost_ret (v := .agg distV.toArray) (by simp [results, Tryz.results148, go_sem, distV]) rfl ⟨rfl, (Below.refl _ _).alloc (Nat.le_refl _) _⟩
/-- B: the block of the captured function -/
def CapAt (w : World) (B g : Nat) : Prop := B < w.heap.size ∧ w.cell? ⟨B, 0, none⟩ = some (.func (.func g) #[] #[])
theorem CapAt.below {w w1 : World} {B g : Nat} (h : CapAt w B g) (hb : Below w.heap.size w w1) : CapAt w1 B g :=
  ⟨Nat.lt_of_lt_of_le h.1 hb.size, by rw [hb.cell (p := ⟨B, 0, none⟩) h.1]; exact h.2⟩
theorem register_any (g : Nat) (w : World) :
    Calls Tryz.prog 143 #[.func (.func g) #[] #[]] w fun e w' => e = .returned (.agg #[.func (.func 184) #[] #[.pointer (some ⟨w.heap.size, 0, none⟩)], .func (.func 185) #[] #[.pointer (some ⟨w.heap.size, 0, none⟩)], .func (.func 188) #[] #[.pointer (some ⟨w.heap.size, 0, none⟩)], .func (.func 189) #[] #[.pointer (some ⟨w.heap.size, 0, none⟩)]]) ∧ Below w.heap.size w w' ∧ CapAt w' w.heap.size g := by
  go_enter Tryz.func143, Tryz.ntmps143
  go_wp2
  refine bodyPost_ret (v := .agg (regV w.heap.size).toArray) (by simp [results, Tryz.results143, go_sem, regV]) rfl ⟨rfl, ((Below.refl _ _).alloc (Nat.le_refl _) _).alloc (by simp) _, by simp; omega, ?_⟩
  rw [World.cell?_alloc_old _ _ _ (by simp)]
  simp only [World.cell?, heap_alloc_new]; rfl

/-- a slice whose block holds these cells -/
def SlV (w : World) (n : Nat) (cs : List Value) (v : Value) : Prop :=
  ∃ b, v = .slice (some ⟨b, 0, none⟩) n n ∧ b < w.heap.size ∧ ∀ (i : Nat) (x : Value), cs[i]? = some x → w.cell? ⟨b, i, none⟩ = some x
theorem SlV.below {w w1 : World} {n : Nat} {cs : List Value} {v : Value} (h : SlV w n cs v) (hb : Below w.heap.size w w1) : SlV w1 n cs v := by
  obtain ⟨b, h1, h2, h3⟩ := h
  exact ⟨b, h1, Nat.lt_of_lt_of_le h2 hb.size, fun i x hx => by rw [hb.cell (p := ⟨b, i, none⟩) h2]; exact h3 i x hx⟩
theorem SlV.new (w : World) (n : Nat) (cs : List Value) (ty : TypeId) : SlV (w.alloc (.cells cs.toArray ty)) n cs (.slice (some ⟨w.heap.size, 0, none⟩) n n) :=
  ⟨_, rfl, by simp, fun i x hx => by
    have h := World.news_of_block (heap_alloc_new w (Obj.cells cs.toArray ty)) i x (by simpa using hx)
    rw [Addr.add_lit, Nat.zero_add] at h; exact h⟩
/-- the table lies in block t -/
def TabAt (w : World) (t bA bB bC : Nat) : Prop :=
  CapAt w bA 144 ∧ CapAt w bB 145 ∧ CapAt w bC 146 ∧ t < w.heap.size ∧
  ∃ s0 s1 s2 s3 s4 s5, SlV w 2 (regV bA ++ conV) s0 ∧ SlV w 2 (regV bA ++ regV bB) s1 ∧ SlV w 3 (regV bA ++ regV bB ++ regV bC) s2 ∧ SlV w 2 (regV bA ++ regV bB) s3 ∧ SlV w 2 (regV bA ++ regV bB) s4 ∧ SlV w 2 (regV bA ++ distV) s5 ∧
    w.cell? ⟨t, 0, none⟩ = some (.string ⟨#[115, 101, 116]⟩) ∧ w.cell? ⟨t, 1, none⟩ = some s0 ∧ w.cell? ⟨t, 2, none⟩ = some (.string ⟨#[109, 111, 118, 101]⟩) ∧ w.cell? ⟨t, 3, none⟩ = some s1 ∧ w.cell? ⟨t, 4, none⟩ = some (.string ⟨#[99, 111, 110, 115]⟩) ∧ w.cell? ⟨t, 5, none⟩ = some s2 ∧ w.cell? ⟨t, 6, none⟩ = some (.string ⟨#[104, 101, 97, 100]⟩) ∧ w.cell? ⟨t, 7, none⟩ = some s3 ∧ w.cell? ⟨t, 8, none⟩ = some (.string ⟨#[116, 97, 105, 108]⟩) ∧ w.cell? ⟨t, 9, none⟩ = some s4 ∧ w.cell? ⟨t, 10, none⟩ = some (.string ⟨#[106, 117, 109, 112]⟩) ∧ w.cell? ⟨t, 11, none⟩ = some s5
theorem TabAt.below {w w1 : World} {t bA bB bC : Nat} (h : TabAt w t bA bB bC) (hb : Below w.heap.size w w1) : TabAt w1 t bA bB bC := by
  obtain ⟨h1, h2, h3, h4, s0, s1, s2, s3, s4, s5, a0, a1, a2, a3, a4, a5, c⟩ := h
  refine ⟨h1.below hb, h2.below hb, h3.below hb, Nat.lt_of_lt_of_le h4 hb.size, s0, s1, s2, s3, s4, s5, a0.below hb, a1.below hb, a2.below hb, a3.below hb, a4.below hb, a5.below hb, ?_⟩
  have e : ∀ o, w1.cell? ⟨t, o, none⟩ = w.cell? ⟨t, o, none⟩ := fun o => hb.cell (p := ⟨t, o, none⟩) h4
  simpa only [e] using c

def TabCells (w : World) (a b c : List Value) (t : Nat) : Prop :=
  t < w.heap.size ∧ ∃ s0 s1 s2 s3 s4 s5, SlV w 2 (a ++ conV) s0 ∧ SlV w 2 (a ++ b) s1 ∧ SlV w 3 (a ++ b ++ c) s2 ∧ SlV w 2 (a ++ b) s3 ∧ SlV w 2 (a ++ b) s4 ∧ SlV w 2 (a ++ distV) s5 ∧
    w.cell? ⟨t, 0, none⟩ = some (.string ⟨#[115, 101, 116]⟩) ∧ w.cell? ⟨t, 1, none⟩ = some s0 ∧ w.cell? ⟨t, 2, none⟩ = some (.string ⟨#[109, 111, 118, 101]⟩) ∧ w.cell? ⟨t, 3, none⟩ = some s1 ∧ w.cell? ⟨t, 4, none⟩ = some (.string ⟨#[99, 111, 110, 115]⟩) ∧ w.cell? ⟨t, 5, none⟩ = some s2 ∧ w.cell? ⟨t, 6, none⟩ = some (.string ⟨#[104, 101, 97, 100]⟩) ∧ w.cell? ⟨t, 7, none⟩ = some s3 ∧ w.cell? ⟨t, 8, none⟩ = some (.string ⟨#[116, 97, 105, 108]⟩) ∧ w.cell? ⟨t, 9, none⟩ = some s4 ∧ w.cell? ⟨t, 10, none⟩ = some (.string ⟨#[106, 117, 109, 112]⟩) ∧ w.cell? ⟨t, 11, none⟩ = some s5
theorem TabCells.below {w w1 : World} {a b c : List Value} {t : Nat} (h : TabCells w a b c t) (hb : Below w.heap.size w w1) : TabCells w1 a b c t := by
  obtain ⟨h4, s0, s1, s2, s3, s4, s5, a0, a1, a2, a3, a4, a5, c⟩ := h
  refine ⟨Nat.lt_of_lt_of_le h4 hb.size, s0, s1, s2, s3, s4, s5, a0.below hb, a1.below hb, a2.below hb, a3.below hb, a4.below hb, a5.below hb, ?_⟩
  have e : ∀ o, w1.cell? ⟨t, o, none⟩ = w.cell? ⟨t, o, none⟩ := fun o => hb.cell (p := ⟨t, o, none⟩) h4
  simpa only [e] using c
def opSlot (j : Nat) : Nat := if j = 27 then 0 else j + 7
theorem opSlot_ne {i j : Nat} (h : j ≠ i) : opSlot j ≠ opSlot i := by unfold opSlot; split <;> split <;> omega
def NameSl (w : World) (nm : ByteArray) (n : Nat) (cs : List Value) (x : Value) : Prop := ∃ s, x = .agg #[.string nm, s] ∧ SlV w n cs s
theorem NameSl.below {w w1 : World} {nm : ByteArray} {n : Nat} {cs : List Value} {x : Value} (h : NameSl w nm n cs x) (hb : Below w.heap.size w w1) : NameSl w1 nm n cs x := by
  obtain ⟨s, h1, h2⟩ := h
  exact ⟨s, h1, h2.below hb⟩
inductive Kd
  | val (y : Value)
  | sl (n : Nat) (cs : List Value)
  | nsl (nm : ByteArray) (n : Nat) (cs : List Value)
  | arr
  | ptr
def kd (a b c : List Value) : Nat → Kd
  | 0 | 4 | 8 | 13 | 17 | 21 => .val (.agg a.toArray)
  | 5 | 9 | 14 | 18 => .val (.agg b.toArray)
  | 10 => .val (.agg c.toArray)
  | 1 => .val (.agg conV.toArray)
  | 22 => .val (.agg distV.toArray)
  | 2 => .sl 2 (a ++ conV)
  | 6 | 15 | 19 => .sl 2 (a ++ b)
  | 11 => .sl 3 (a ++ b ++ c)
  | 23 => .sl 2 (a ++ distV)
  | 3 => .nsl ⟨#[115, 101, 116]⟩ 2 (a ++ conV)
  | 7 => .nsl ⟨#[109, 111, 118, 101]⟩ 2 (a ++ b)
  | 12 => .nsl ⟨#[99, 111, 110, 115]⟩ 3 (a ++ b ++ c)
  | 16 => .nsl ⟨#[104, 101, 97, 100]⟩ 2 (a ++ b)
  | 20 => .nsl ⟨#[116, 97, 105, 108]⟩ 2 (a ++ b)
  | 24 => .nsl ⟨#[106, 117, 109, 112]⟩ 2 (a ++ distV)
  | 25 => .arr
  | _ => .ptr
def Kd.ok (a b c : List Value) (w : World) (x : Value) : Kd → Prop
  | .val y => x = y
  | .sl n cs => SlV w n cs x
  | .nsl nm n cs => NameSl w nm n cs x
  | .arr => ∃ s0 s1 s2 s3 s4 s5, x = .agg #[.string ⟨#[115, 101, 116]⟩, s0, .string ⟨#[109, 111, 118, 101]⟩, s1, .string ⟨#[99, 111, 110, 115]⟩, s2, .string ⟨#[104, 101, 97, 100]⟩, s3, .string ⟨#[116, 97, 105, 108]⟩, s4, .string ⟨#[106, 117, 109, 112]⟩, s5] ∧
    SlV w 2 (a ++ conV) s0 ∧ SlV w 2 (a ++ b) s1 ∧ SlV w 3 (a ++ b ++ c) s2 ∧ SlV w 2 (a ++ b) s3 ∧ SlV w 2 (a ++ b) s4 ∧ SlV w 2 (a ++ distV) s5
  | .ptr => ∃ t, x = .pointer (some ⟨t, 0, none⟩) ∧ TabCells w a b c t
/-- what the slot of operation j holds once it has been carried out -/
def Gd (a b c : List Value) (w : World) (j : Nat) (x : Value) : Prop := (kd a b c j).ok a b c w x
theorem Gd.below {a b c : List Value} {w w1 : World} {j : Nat} {x : Value} (h : Gd a b c w j x) (hb : Below w.heap.size w w1) : Gd a b c w1 j x := by
  unfold Gd at *
  generalize kd a b c j = k at *
  cases k with
  | val y => exact h
  | sl n cs => exact SlV.below h hb
  | nsl nm n cs => exact NameSl.below h hb
  | arr =>
    obtain ⟨s0, s1, s2, s3, s4, s5, e, a0, a1, a2, a3, a4, a5⟩ := h
    exact ⟨s0, s1, s2, s3, s4, s5, e, a0.below hb, a1.below hb, a2.below hb, a3.below hb, a4.below hb, a5.below hb⟩
  | ptr =>
    obtain ⟨t, e, h⟩ := h
    exact ⟨t, e, h.below hb⟩
theorem Gd.step {a b c : List Value} {w w1 : World} {listed : Array Bool} {i s : Nat} {v : Nat → Value} {x : Value} (hs : opSlot i = s) (hb : Below w.heap.size w w1)
    (hG : ∀ j, listed.getD j false = true → Gd a b c w j (v (opSlot j))) (hx : Gd a b c w1 i x) :
    ∀ j, (listed.setIfInBounds i true).getD j false = true → Gd a b c w1 j ((fun k => if k = s then x else v k) (opSlot j)) := by
  intro j hj
  by_cases h : j = i
  · subst h; simp only [hs, if_true]; exact hx
  · have h1 := opSlot_ne h
    rw [hs] at h1
    simp only [if_neg h1]
    exact (hG j (by rwa [getD_set_ne false (Ne.symm h)] at hj)).below hb
theorem dep {md : Region.Mode} {ops : Array Oper} {listed : Array Bool} {i : Nat} {o : Oper} (hi : i ∈ Region.ready md ops listed) (ho : ops[i]? = some o) (e : Edge) (he : e ∈ o.after) (hb : Region.binds md e = true) : listed.getD e.on false = true := by
  obtain ⟨_, o', ho', h⟩ := mem_ready.1 hi
  rw [ho] at ho'
  obtain rfl := Option.some.inj ho'
  exact h e he hb

end Go.Proofs.YtmhoacnbmbhcjaaGreatDoor

namespace Go.Proofs.YtmhoacnbmbhcjaaGreatDoor
open Go.RowKit Pl

def frm (v : Nat → Value) (p1 p2 p3 x4 x5 x6 : Value) : Act :=
  { tmps := #[v 0, p1, p2, p3, x4, x5, x6, v 7, v 8, v 9, v 10, v 11, v 12, v 13, v 14, v 15, v 16, v 17, v 18, v 19, v 20, v 21, v 22, v 23, v 24, v 25, v 26, v 27, v 28, v 29, v 30, v 31, v 32, v 33], defers := [] }

def RowCells (w : World) (b : Nat) (cs : List Value) : Prop := b < w.heap.size ∧ ∀ (i : Nat) (x : Value), cs[i]? = some x → w.cell? ⟨b, i, none⟩ = some x
theorem RowCells.below {w w1 : World} {b : Nat} {cs : List Value} (h : RowCells w b cs) (hb : Below w.heap.size w w1) : RowCells w1 b cs :=
  ⟨Nat.lt_of_lt_of_le h.1 hb.size, fun i x hx => by rw [hb.cell (p := ⟨b, i, none⟩) h.1]; exact h.2 i x hx⟩
theorem RowCells.new (w : World) (cs : List Value) (ty : TypeId) : RowCells (w.alloc (.cells cs.toArray ty)) w.heap.size cs :=
  ⟨by simp, fun i x hx => by
    have h := World.news_of_block (heap_alloc_new w (Obj.cells cs.toArray ty)) i x (by simpa using hx)
    rw [Addr.add_lit, Nat.zero_add] at h; exact h⟩

set_option maxHeartbeats 6400000 in
set_option maxRecDepth 100000 in
theorem operations_any (w : World) :
    Calls Tryz.prog 93 #[] w fun e w' => ∃ t bA bB bC, e = .returned (.pointer (some ⟨t, 0, none⟩)) ∧ TabAt w' t bA bB bC ∧ Below w.heap.size w w' := by
  go_enter Tryz.func93, Tryz.ntmps93
  go_wp2_with fail
  refine (register_any 144 _).mono ?_
  rintro e w1 ⟨rfl, h1, c1⟩
  go_wp2_with fail
  refine (register_any 145 _).mono ?_
  rintro e w2 ⟨rfl, h2, c2⟩
  go_wp2_with fail
  refine (register_any 146 _).mono ?_
  rintro e w3 ⟨rfl, h3, c3⟩
  go_wp2_with fail
  have cA := (((RowCells.new w1 (regV w.heap.size) 165).below h2).below ((Below.refl _ _).alloc (Nat.le_refl _) (.cells (regV (w1.heap.size + 1)).toArray 165))).below h3
  have cB := (RowCells.new w2 (regV (w1.heap.size + 1)) 165).below h3
  have k1 := (((c1.below ((Below.refl _ _).alloc (Nat.le_refl _) (.cells (regV w.heap.size).toArray 165))).below h2).below ((Below.refl _ _).alloc (Nat.le_refl _) (.cells (regV (w1.heap.size + 1)).toArray 165))).below h3
  have k2 := (c2.below ((Below.refl _ _).alloc (Nat.le_refl _) (.cells (regV (w1.heap.size + 1)).toArray 165))).below h3
  have hbW : Below w.heap.size w w3 := (((h1.alloc h1.size _).trans (h2.mono (by have := h1.size; simp; omega))).alloc (by have := h1.size; have := h2.size; simp at this; omega) _).trans (h3.mono (by have := h1.size; have := h2.size; simp at this; simp; omega))
  replace cA := cA.below ((Below.refl _ _).alloc (Nat.le_refl _) (.cells (regV (w2.heap.size + 1)).toArray 165))
  replace cB := cB.below ((Below.refl _ _).alloc (Nat.le_refl _) (.cells (regV (w2.heap.size + 1)).toArray 165))
  have cC := RowCells.new w3 (regV (w2.heap.size + 1)) 165
  replace k1 := k1.below ((Below.refl _ _).alloc (Nat.le_refl _) (.cells (regV (w2.heap.size + 1)).toArray 165))
  replace k2 := k2.below ((Below.refl _ _).alloc (Nat.le_refl _) (.cells (regV (w2.heap.size + 1)).toArray 165))
  have k3 := c3.below ((Below.refl _ _).alloc (Nat.le_refl _) (.cells (regV (w2.heap.size + 1)).toArray 165))
  replace hbW := hbW.alloc hbW.size (.cells (regV (w2.heap.size + 1)).toArray 165)
  rw [World.size_alloc] at k2
  rw [World.size_alloc] at k3
  change CapAt (w3.alloc _) _ _ at k1 k2 k3
  clear h1 h2 h3 c1 c2 c3
  have HA := Lib.hid cA; have HB := Lib.hid cB; have HC := Lib.hid cC; have K1 := Lib.hid k1; have K2 := Lib.hid k2; have K3 := Lib.hid k3; have HW := Lib.hid hbW
  clear cA cB cC k1 k2 k3 hbW
  generalize hW : w3.alloc _ = W
  have hW' : w3.alloc (.cells (regV (w2.heap.size + 1)).toArray 165) = W := hW
  rw [hW'] at HA HB HC K1 K2 K3 HW
  clear hW hW'
  generalize w1.heap.size = n1 at *
  generalize w2.heap.size = n2 at *
  generalize w3.heap.size = n3 at *
  refine wp_region_inv (P := Tryz.prog) (fun listed a' w' => ∃ v : Nat → Value, a' = frm v (.pointer (some ⟨n1, 0, none⟩)) (.pointer (some ⟨n2, 0, none⟩)) (.pointer (some ⟨n3, 0, none⟩)) (.agg (regV w.heap.size).toArray) (.agg (regV (n1 + 1)).toArray) (.agg (regV (n2 + 1)).toArray) ∧ Below W.heap.size W w' ∧
    ∀ j, listed.getD j false = true → Gd (regV w.heap.size) (regV (n1 + 1)) (regV (n2 + 1)) w' j (v (opSlot j))) (by kernel_rfl) ?start ?step ?done
  case start =>
    refine ⟨fun k => if k = 0 then .pointer none else undef, rfl, (Below.refl _ _).drew, ?_⟩
    intro j hj
    exfalso
    rw [Array.getD_eq_getD_getElem?, Array.getElem?_replicate] at hj
    split at hj <;> simp at hj
  case done =>
    rintro listed a' w' hs hr ⟨v, rfl, hb, hG⟩
    have h27 := hG 27 (all_listed hs (by kernel_rfl) hr 27 (by decide))
    obtain ⟨t, ht, hT⟩ := h27
    have ht : v 0 = .pointer (some ⟨t, 0, none⟩) := ht
    have HT := Lib.hid hT
    clear hG hT hr hs
    unfold frm
    go_wp2
    go_ret
    obtain ⟨b1, b2⟩ := HT.out
    exact ⟨t, w.heap.size, n1 + 1, n2 + 1, by show Ending.returned (v 0) = _; rw [ht], ⟨K1.out.below hb, K2.out.below hb, K3.out.below hb, b1, b2⟩, HW.out.trans (hb.mono HW.out.size)⟩
  case step =>
    rintro listed a' w' i hs ⟨v, rfl, hb, hG⟩ hi
    have a0 := (HA.out.below hb).2 0 _ rfl
    have a1 := (HA.out.below hb).2 1 _ rfl
    have a2 := (HA.out.below hb).2 2 _ rfl
    have a3 := (HA.out.below hb).2 3 _ rfl
    have b0 := (HB.out.below hb).2 0 _ rfl
    have b1 := (HB.out.below hb).2 1 _ rfl
    have b2 := (HB.out.below hb).2 2 _ rfl
    have b3 := (HB.out.below hb).2 3 _ rfl
    have c0 := (HC.out.below hb).2 0 _ rfl
    have c1 := (HC.out.below hb).2 1 _ rfl
    have c2 := (HC.out.below hb).2 2 _ rfl
    have c3 := (HC.out.below hb).2 3 _ rfl
    have hlt : i = 0 ∨ i = 1 ∨ i = 2 ∨ i = 3 ∨ i = 4 ∨ i = 5 ∨ i = 6 ∨ i = 7 ∨ i = 8 ∨ i = 9 ∨ i = 10 ∨ i = 11 ∨ i = 12 ∨ i = 13 ∨ i = 14 ∨ i = 15 ∨ i = 16 ∨ i = 17 ∨ i = 18 ∨ i = 19 ∨ i = 20 ∨ i = 21 ∨ i = 22 ∨ i = 23 ∨ i = 24 ∨ i = 25 ∨ i = 26 ∨ i = 27 := by
      obtain ⟨_, o, ho, _⟩ := mem_ready.1 hi
      have := (Array.getElem?_eq_some_iff.1 ho).1
      simp at this; omega
    unfold frm
    rcases hlt with rfl | rfl | rfl | rfl | rfl | rfl | rfl | rfl | rfl | rfl | rfl | rfl | rfl | rfl | rfl | rfl | rfl | rfl | rfl | rfl | rfl | rfl | rfl | rfl | rfl | rfl | rfl | rfl
    · refine wpOp_step rfl (fun K' hK => ?_)
      go_simp
      exact hK _ _ ⟨fun k => if k = 7 then _ else v k, rfl, hb, Gd.step (i := 0) (s := 7) rfl (Below.refl _ _) hG rfl⟩
    · refine wpOp_step rfl (fun K' hK => ?_)
      go_simp
      refine (constant_any _).mono ?_
      rintro e w4 ⟨rfl, h4⟩
      exact hK _ _ ⟨fun k => if k = 8 then _ else v k, rfl, hb.trans (h4.mono hb.size), Gd.step (i := 1) (s := 8) rfl h4 hG rfl⟩
    · have d0 : v 7 = .agg (regV w.heap.size).toArray := hG 0 (dep hi rfl ⟨0, .data⟩ (by simp) rfl)
      have d1 : v 8 = .agg (conV).toArray := hG 1 (dep hi rfl ⟨1, .data⟩ (by simp) rfl)
      simp only [regV] at d0
      simp only [conV] at d1
      refine wpOp_step rfl (fun K' hK => ?_)
      go_simp
      rw [← d0, ← d1]
      exact hK _ _ ⟨fun k => if k = 9 then _ else v k, rfl, hb.alloc hb.size _, Gd.step (i := 2) (s := 9) rfl ((Below.refl _ _).alloc (Nat.le_refl _) _) hG (SlV.new w' 2 (regV w.heap.size ++ conV) 165)⟩
    · obtain ⟨b, d2, hs1⟩ : ∃ b, v 9 = .slice (some ⟨b, 0, none⟩) _ _ ∧ _ := hG 2 (dep hi rfl ⟨2, .data⟩ (by simp) rfl)
      refine wpOp_step rfl (fun K' hK => ?_)
      go_simp
      rw [← d2]
      exact hK _ _ ⟨fun k => if k = 10 then _ else v k, rfl, hb, Gd.step (i := 3) (s := 10) rfl (Below.refl _ _) hG ⟨_, rfl, b, d2, hs1⟩⟩
    · refine wpOp_step rfl (fun K' hK => ?_)
      go_simp
      exact hK _ _ ⟨fun k => if k = 11 then _ else v k, rfl, hb, Gd.step (i := 4) (s := 11) rfl (Below.refl _ _) hG rfl⟩
    · refine wpOp_step rfl (fun K' hK => ?_)
      go_simp
      exact hK _ _ ⟨fun k => if k = 12 then _ else v k, rfl, hb, Gd.step (i := 5) (s := 12) rfl (Below.refl _ _) hG rfl⟩
    · have d4 : v 11 = .agg (regV w.heap.size).toArray := hG 4 (dep hi rfl ⟨4, .data⟩ (by simp) rfl)
      have d5 : v 12 = .agg (regV (n1 + 1)).toArray := hG 5 (dep hi rfl ⟨5, .data⟩ (by simp) rfl)
      simp only [regV] at d4
      simp only [regV] at d5
      refine wpOp_step rfl (fun K' hK => ?_)
      go_simp
      rw [← d4, ← d5]
      exact hK _ _ ⟨fun k => if k = 13 then _ else v k, rfl, hb.alloc hb.size _, Gd.step (i := 6) (s := 13) rfl ((Below.refl _ _).alloc (Nat.le_refl _) _) hG (SlV.new w' 2 (regV w.heap.size ++ regV (n1 + 1)) 165)⟩
    · obtain ⟨b, d6, hs1⟩ : ∃ b, v 13 = .slice (some ⟨b, 0, none⟩) _ _ ∧ _ := hG 6 (dep hi rfl ⟨6, .data⟩ (by simp) rfl)
      refine wpOp_step rfl (fun K' hK => ?_)
      go_simp
      rw [← d6]
      exact hK _ _ ⟨fun k => if k = 14 then _ else v k, rfl, hb, Gd.step (i := 7) (s := 14) rfl (Below.refl _ _) hG ⟨_, rfl, b, d6, hs1⟩⟩
    · refine wpOp_step rfl (fun K' hK => ?_)
      go_simp
      exact hK _ _ ⟨fun k => if k = 15 then _ else v k, rfl, hb, Gd.step (i := 8) (s := 15) rfl (Below.refl _ _) hG rfl⟩
    · refine wpOp_step rfl (fun K' hK => ?_)
      go_simp
      exact hK _ _ ⟨fun k => if k = 16 then _ else v k, rfl, hb, Gd.step (i := 9) (s := 16) rfl (Below.refl _ _) hG rfl⟩
    · refine wpOp_step rfl (fun K' hK => ?_)
      go_simp
      exact hK _ _ ⟨fun k => if k = 17 then _ else v k, rfl, hb, Gd.step (i := 10) (s := 17) rfl (Below.refl _ _) hG rfl⟩
    · have d8 : v 15 = .agg (regV w.heap.size).toArray := hG 8 (dep hi rfl ⟨8, .data⟩ (by simp) rfl)
      have d9 : v 16 = .agg (regV (n1 + 1)).toArray := hG 9 (dep hi rfl ⟨9, .data⟩ (by simp) rfl)
      have d10 : v 17 = .agg (regV (n2 + 1)).toArray := hG 10 (dep hi rfl ⟨10, .data⟩ (by simp) rfl)
      simp only [regV] at d8
      simp only [regV] at d9
      simp only [regV] at d10
      refine wpOp_step rfl (fun K' hK => ?_)
      go_simp
      rw [← d8, ← d9, ← d10]
      exact hK _ _ ⟨fun k => if k = 18 then _ else v k, rfl, hb.alloc hb.size _, Gd.step (i := 11) (s := 18) rfl ((Below.refl _ _).alloc (Nat.le_refl _) _) hG (SlV.new w' 3 (regV w.heap.size ++ regV (n1 + 1) ++ regV (n2 + 1)) 165)⟩
    · obtain ⟨b, d11, hs1⟩ : ∃ b, v 18 = .slice (some ⟨b, 0, none⟩) _ _ ∧ _ := hG 11 (dep hi rfl ⟨11, .data⟩ (by simp) rfl)
      refine wpOp_step rfl (fun K' hK => ?_)
      go_simp
      rw [← d11]
      exact hK _ _ ⟨fun k => if k = 19 then _ else v k, rfl, hb, Gd.step (i := 12) (s := 19) rfl (Below.refl _ _) hG ⟨_, rfl, b, d11, hs1⟩⟩
    · refine wpOp_step rfl (fun K' hK => ?_)
      go_simp
      exact hK _ _ ⟨fun k => if k = 20 then _ else v k, rfl, hb, Gd.step (i := 13) (s := 20) rfl (Below.refl _ _) hG rfl⟩
    · refine wpOp_step rfl (fun K' hK => ?_)
      go_simp
      exact hK _ _ ⟨fun k => if k = 21 then _ else v k, rfl, hb, Gd.step (i := 14) (s := 21) rfl (Below.refl _ _) hG rfl⟩
    · have d13 : v 20 = .agg (regV w.heap.size).toArray := hG 13 (dep hi rfl ⟨13, .data⟩ (by simp) rfl)
      have d14 : v 21 = .agg (regV (n1 + 1)).toArray := hG 14 (dep hi rfl ⟨14, .data⟩ (by simp) rfl)
      simp only [regV] at d13
      simp only [regV] at d14
      refine wpOp_step rfl (fun K' hK => ?_)
      go_simp
      rw [← d13, ← d14]
      exact hK _ _ ⟨fun k => if k = 22 then _ else v k, rfl, hb.alloc hb.size _, Gd.step (i := 15) (s := 22) rfl ((Below.refl _ _).alloc (Nat.le_refl _) _) hG (SlV.new w' 2 (regV w.heap.size ++ regV (n1 + 1)) 165)⟩
    · obtain ⟨b, d15, hs1⟩ : ∃ b, v 22 = .slice (some ⟨b, 0, none⟩) _ _ ∧ _ := hG 15 (dep hi rfl ⟨15, .data⟩ (by simp) rfl)
      refine wpOp_step rfl (fun K' hK => ?_)
      go_simp
      rw [← d15]
      exact hK _ _ ⟨fun k => if k = 23 then _ else v k, rfl, hb, Gd.step (i := 16) (s := 23) rfl (Below.refl _ _) hG ⟨_, rfl, b, d15, hs1⟩⟩
    · refine wpOp_step rfl (fun K' hK => ?_)
      go_simp
      exact hK _ _ ⟨fun k => if k = 24 then _ else v k, rfl, hb, Gd.step (i := 17) (s := 24) rfl (Below.refl _ _) hG rfl⟩
    · refine wpOp_step rfl (fun K' hK => ?_)
      go_simp
      exact hK _ _ ⟨fun k => if k = 25 then _ else v k, rfl, hb, Gd.step (i := 18) (s := 25) rfl (Below.refl _ _) hG rfl⟩
    · have d17 : v 24 = .agg (regV w.heap.size).toArray := hG 17 (dep hi rfl ⟨17, .data⟩ (by simp) rfl)
      have d18 : v 25 = .agg (regV (n1 + 1)).toArray := hG 18 (dep hi rfl ⟨18, .data⟩ (by simp) rfl)
      simp only [regV] at d17
      simp only [regV] at d18
      refine wpOp_step rfl (fun K' hK => ?_)
      go_simp
      rw [← d17, ← d18]
      exact hK _ _ ⟨fun k => if k = 26 then _ else v k, rfl, hb.alloc hb.size _, Gd.step (i := 19) (s := 26) rfl ((Below.refl _ _).alloc (Nat.le_refl _) _) hG (SlV.new w' 2 (regV w.heap.size ++ regV (n1 + 1)) 165)⟩
    · obtain ⟨b, d19, hs1⟩ : ∃ b, v 26 = .slice (some ⟨b, 0, none⟩) _ _ ∧ _ := hG 19 (dep hi rfl ⟨19, .data⟩ (by simp) rfl)
      refine wpOp_step rfl (fun K' hK => ?_)
      go_simp
      rw [← d19]
      exact hK _ _ ⟨fun k => if k = 27 then _ else v k, rfl, hb, Gd.step (i := 20) (s := 27) rfl (Below.refl _ _) hG ⟨_, rfl, b, d19, hs1⟩⟩
    · refine wpOp_step rfl (fun K' hK => ?_)
      go_simp
      exact hK _ _ ⟨fun k => if k = 28 then _ else v k, rfl, hb, Gd.step (i := 21) (s := 28) rfl (Below.refl _ _) hG rfl⟩
    · refine wpOp_step rfl (fun K' hK => ?_)
      go_simp
      refine (distance_any _).mono ?_
      rintro e w4 ⟨rfl, h4⟩
      exact hK _ _ ⟨fun k => if k = 29 then _ else v k, rfl, hb.trans (h4.mono hb.size), Gd.step (i := 22) (s := 29) rfl h4 hG rfl⟩
    · have d21 : v 28 = .agg (regV w.heap.size).toArray := hG 21 (dep hi rfl ⟨21, .data⟩ (by simp) rfl)
      have d22 : v 29 = .agg (distV).toArray := hG 22 (dep hi rfl ⟨22, .data⟩ (by simp) rfl)
      simp only [regV] at d21
      simp only [distV] at d22
      refine wpOp_step rfl (fun K' hK => ?_)
      go_simp
      rw [← d21, ← d22]
      exact hK _ _ ⟨fun k => if k = 30 then _ else v k, rfl, hb.alloc hb.size _, Gd.step (i := 23) (s := 30) rfl ((Below.refl _ _).alloc (Nat.le_refl _) _) hG (SlV.new w' 2 (regV w.heap.size ++ distV) 165)⟩
    · obtain ⟨b, d23, hs1⟩ : ∃ b, v 30 = .slice (some ⟨b, 0, none⟩) _ _ ∧ _ := hG 23 (dep hi rfl ⟨23, .data⟩ (by simp) rfl)
      refine wpOp_step rfl (fun K' hK => ?_)
      go_simp
      rw [← d23]
      exact hK _ _ ⟨fun k => if k = 31 then _ else v k, rfl, hb, Gd.step (i := 24) (s := 31) rfl (Below.refl _ _) hG ⟨_, rfl, b, d23, hs1⟩⟩
    · obtain ⟨_, d3, b0, rfl, g0⟩ : NameSl w' _ _ _ (v 10) := hG 3 (dep hi rfl ⟨3, .data⟩ (by simp) rfl)
      obtain ⟨_, d7, b1, rfl, g1⟩ : NameSl w' _ _ _ (v 14) := hG 7 (dep hi rfl ⟨7, .data⟩ (by simp) rfl)
      obtain ⟨_, d12, b2, rfl, g2⟩ : NameSl w' _ _ _ (v 19) := hG 12 (dep hi rfl ⟨12, .data⟩ (by simp) rfl)
      obtain ⟨_, d16, b3, rfl, g3⟩ : NameSl w' _ _ _ (v 23) := hG 16 (dep hi rfl ⟨16, .data⟩ (by simp) rfl)
      obtain ⟨_, d20, b4, rfl, g4⟩ : NameSl w' _ _ _ (v 27) := hG 20 (dep hi rfl ⟨20, .data⟩ (by simp) rfl)
      obtain ⟨_, d24, b5, rfl, g5⟩ : NameSl w' _ _ _ (v 31) := hG 24 (dep hi rfl ⟨24, .data⟩ (by simp) rfl)
      refine wpOp_step rfl (fun K' hK => ?_)
      go_simp
      rw [← d3, ← d7, ← d12, ← d16, ← d20, ← d24]
      exact hK _ _ ⟨fun k => if k = 32 then _ else v k, rfl, hb, Gd.step (i := 25) (s := 32) rfl (Below.refl _ _) hG ⟨_, _, _, _, _, _, rfl, ⟨b0, rfl, g0⟩, ⟨b1, rfl, g1⟩, ⟨b2, rfl, g2⟩, ⟨b3, rfl, g3⟩, ⟨b4, rfl, g4⟩, ⟨b5, rfl, g5⟩⟩⟩
    · obtain ⟨s0, s1, s2, s3, s4, s5, d25, g0, g1, g2, g3, g4, g5⟩ : (∃ s0 s1 s2 s3 s4 s5, v 32 = .agg #[.string ⟨#[115, 101, 116]⟩, s0, .string ⟨#[109, 111, 118, 101]⟩, s1, .string ⟨#[99, 111, 110, 115]⟩, s2, .string ⟨#[104, 101, 97, 100]⟩, s3, .string ⟨#[116, 97, 105, 108]⟩, s4, .string ⟨#[106, 117, 109, 112]⟩, s5] ∧ _) := hG 25 (dep hi rfl ⟨25, .data⟩ (by simp) rfl)
      refine wpOp_step rfl (fun K' hK => ?_)
      go_simp
      rw [← d25]
      have hq := (RowCells.new w' [.string ⟨#[115, 101, 116]⟩, s0, .string ⟨#[109, 111, 118, 101]⟩, s1, .string ⟨#[99, 111, 110, 115]⟩, s2, .string ⟨#[104, 101, 97, 100]⟩, s3, .string ⟨#[116, 97, 105, 108]⟩, s4, .string ⟨#[106, 117, 109, 112]⟩, s5] 175)
      have hx : Below w'.heap.size w' (w'.alloc (.cells #[.string ⟨#[115, 101, 116]⟩, s0, .string ⟨#[109, 111, 118, 101]⟩, s1, .string ⟨#[99, 111, 110, 115]⟩, s2, .string ⟨#[104, 101, 97, 100]⟩, s3, .string ⟨#[116, 97, 105, 108]⟩, s4, .string ⟨#[106, 117, 109, 112]⟩, s5] 175)) := (Below.refl _ _).alloc (Nat.le_refl _) _
      exact hK _ _ ⟨fun k => if k = 33 then _ else v k, rfl, hb.alloc hb.size _, Gd.step (i := 26) (s := 33) rfl hx hG ⟨_, rfl, hq.1, s0, s1, s2, s3, s4, s5, g0.below hx, g1.below hx, g2.below hx, g3.below hx, g4.below hx, g5.below hx, hq.2 0 _ rfl, hq.2 1 _ rfl, hq.2 2 _ rfl, hq.2 3 _ rfl, hq.2 4 _ rfl, hq.2 5 _ rfl, hq.2 6 _ rfl, hq.2 7 _ rfl, hq.2 8 _ rfl, hq.2 9 _ rfl, hq.2 10 _ rfl, hq.2 11 _ rfl⟩⟩
    · have d26 := hG 26 (dep hi rfl ⟨26, .data⟩ (by simp) rfl)
      refine wpOp_step rfl (fun K' hK => ?_)
      go_simp
      exact hK _ _ ⟨fun k => if k = 0 then _ else v k, rfl, hb, Gd.step (i := 27) (s := 0) rfl (Below.refl _ _) hG d26⟩
end Go.Proofs.YtmhoacnbmbhcjaaGreatDoor
