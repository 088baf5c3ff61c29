/- The table's parts: register, distance, constant as function values. By an AI agent. -/
import Derived.Test.YtlfoigkpfooopaaGreatDoorRegionInv
import Derived.Test.YtlfoigkpfooopaaGreatDoorCodeMath
import Derived.Test.YtlfoigkpfooopaaGreatDoorTextMath
import Derived.Laws.EntriesVeiled
import Derived.Deep.DeepCutAuto
import Derived.Deep.AppendLies
namespace Go.Proofs.YtlfoigkpfooopaaGreatDoor
open Go.RowKit Pl

/-- the four functions of a field that was made of a function at -/
def regV (B : Nat) : List Value := [.func (.func 79) #[] #[.pointer (some ⟨B, 0, none⟩)], .func (.func 81) #[] #[.pointer (some ⟨B, 0, none⟩)], .func (.func 84) #[] #[.pointer (some ⟨B, 0, none⟩)], .func (.func 85) #[] #[.pointer (some ⟨B, 0, none⟩)]]
def conV : List Value := [.func (.func 89) #[] #[], .func (.func 86) #[] #[], .func (.func 90) #[] #[], .func (.func 86) #[] #[]]
def distV : List Value := [.func (.func 91) #[] #[], .func (.func 92) #[] #[], .func (.func 93) #[] #[], .func (.func 95) #[] #[]]

theorem constant_any (w : World) :
    Calls Tryz.prog 58 #[] w fun e w' => e = .returned (.agg conV.toArray) ∧ Below w.heap.size w w' := by
  go_enter Tryz.func58, Tryz.ntmps58
  go_wp2
  exact bodyPost_ret (v := .agg conV.toArray) (by simp [results, Tryz.results58, go_sem, conV]) rfl ⟨rfl, (Below.refl _ _).alloc (Nat.le_refl _) _⟩
theorem distance_any (w : World) :
    Calls Tryz.prog 59 #[] w fun e w' => e = .returned (.agg distV.toArray) ∧ Below w.heap.size w w' := by
  go_enter Tryz.func59, Tryz.ntmps59
  go_wp2
  exact bodyPost_ret (v := .agg distV.toArray) (by simp [results, Tryz.results59, go_sem, distV]) rfl ⟨rfl, (Below.refl _ _).alloc (Nat.le_refl _) _⟩
/-- B: the block of the captured function -/
def CapAt (w : World) (B g : Nat) : Prop := B < w.heap.size ∧ w.cell? ⟨B, 0, none⟩ = some (.func (.func g) #[] #[])
theorem CapAt.below {w w1 : World} {B g : Nat} (h : CapAt w B g) (hb : Below w.heap.size w w1) : CapAt w1 B g :=
  ⟨Nat.lt_of_lt_of_le h.1 hb.size, by rw [hb.cell (p := ⟨B, 0, none⟩) h.1]; exact h.2⟩
theorem register_any (g : Nat) (w : World) :
    Calls Tryz.prog 54 #[.func (.func g) #[] #[]] w fun e w' => e = .returned (.agg #[.func (.func 79) #[] #[.pointer (some ⟨w.heap.size, 0, none⟩)], .func (.func 81) #[] #[.pointer (some ⟨w.heap.size, 0, none⟩)], .func (.func 84) #[] #[.pointer (some ⟨w.heap.size, 0, none⟩)], .func (.func 85) #[] #[.pointer (some ⟨w.heap.size, 0, none⟩)]]) ∧ Below w.heap.size w w' ∧ CapAt w' w.heap.size g := by
  go_enter Tryz.func54, Tryz.ntmps54
  go_wp2
  refine bodyPost_ret (v := .agg (regV w.heap.size).toArray) (by simp [results, Tryz.results54, go_sem, regV]) rfl ⟨rfl, ((Below.refl _ _).alloc (Nat.le_refl _) _).alloc (by simp) _, by simp; omega, ?_⟩
  rw [World.cell?_alloc_old _ _ _ (by simp)]
  simp only [World.cell?, heap_alloc_new]; rfl

/-- a slice whose block holds these cells -/
def SlV (w : World) (n : Nat) (cs : List Value) (v : Value) : Prop :=
  ∃ b, v = .slice (some ⟨b, 0, none⟩) n n ∧ b < w.heap.size ∧ ∀ (i : Nat) (x : Value), cs[i]? = some x → w.cell? ⟨b, i, none⟩ = some x
theorem SlV.below {w w1 : World} {n : Nat} {cs : List Value} {v : Value} (h : SlV w n cs v) (hb : Below w.heap.size w w1) : SlV w1 n cs v := by
  obtain ⟨b, h1, h2, h3⟩ := h
  exact ⟨b, h1, Nat.lt_of_lt_of_le h2 hb.size, fun i x hx => by rw [hb.cell (p := ⟨b, i, none⟩) h2]; exact h3 i x hx⟩
theorem SlV.new (w : World) (n : Nat) (cs : List Value) (ty : TypeId) : SlV (w.alloc (.cells cs.toArray ty)) n cs (.slice (some ⟨w.heap.size, 0, none⟩) n n) :=
  ⟨_, rfl, by simp, fun i x hx => by
    have h := World.news_of_block (heap_alloc_new w (Obj.cells cs.toArray ty)) i x (by simpa using hx)
    rw [Addr.add_lit, Nat.zero_add] at h; exact h⟩
/-- the table lies in block t -/
def TabAt (w : World) (t bA bB bC : Nat) : Prop :=
  CapAt w bA 55 ∧ CapAt w bB 56 ∧ CapAt w bC 57 ∧ t < w.heap.size ∧
  ∃ s0 s1 s2 s3 s4 s5, SlV w 2 (regV bA ++ conV) s0 ∧ SlV w 2 (regV bA ++ regV bB) s1 ∧ SlV w 3 (regV bA ++ regV bB ++ regV bC) s2 ∧ SlV w 2 (regV bA ++ regV bB) s3 ∧ SlV w 2 (regV bA ++ regV bB) s4 ∧ SlV w 2 (regV bA ++ distV) s5 ∧
    w.cell? ⟨t, 0, none⟩ = some (.string ⟨#[115, 101, 116]⟩) ∧ w.cell? ⟨t, 1, none⟩ = some s0 ∧ w.cell? ⟨t, 2, none⟩ = some (.string ⟨#[109, 111, 118, 101]⟩) ∧ w.cell? ⟨t, 3, none⟩ = some s1 ∧ w.cell? ⟨t, 4, none⟩ = some (.string ⟨#[99, 111, 110, 115]⟩) ∧ w.cell? ⟨t, 5, none⟩ = some s2 ∧ w.cell? ⟨t, 6, none⟩ = some (.string ⟨#[104, 101, 97, 100]⟩) ∧ w.cell? ⟨t, 7, none⟩ = some s3 ∧ w.cell? ⟨t, 8, none⟩ = some (.string ⟨#[116, 97, 105, 108]⟩) ∧ w.cell? ⟨t, 9, none⟩ = some s4 ∧ w.cell? ⟨t, 10, none⟩ = some (.string ⟨#[106, 117, 109, 112]⟩) ∧ w.cell? ⟨t, 11, none⟩ = some s5
theorem TabAt.below {w w1 : World} {t bA bB bC : Nat} (h : TabAt w t bA bB bC) (hb : Below w.heap.size w w1) : TabAt w1 t bA bB bC := by
  obtain ⟨h1, h2, h3, h4, s0, s1, s2, s3, s4, s5, a0, a1, a2, a3, a4, a5, c⟩ := h
  refine ⟨h1.below hb, h2.below hb, h3.below hb, Nat.lt_of_lt_of_le h4 hb.size, s0, s1, s2, s3, s4, s5, a0.below hb, a1.below hb, a2.below hb, a3.below hb, a4.below hb, a5.below hb, ?_⟩
  have e : ∀ o, w1.cell? ⟨t, o, none⟩ = w.cell? ⟨t, o, none⟩ := fun o => hb.cell (p := ⟨t, o, none⟩) h4
  simpa only [e] using c

def TabCells (w : World) (a b c : List Value) (t : Nat) : Prop :=
  t < w.heap.size ∧ ∃ s0 s1 s2 s3 s4 s5, SlV w 2 (a ++ conV) s0 ∧ SlV w 2 (a ++ b) s1 ∧ SlV w 3 (a ++ b ++ c) s2 ∧ SlV w 2 (a ++ b) s3 ∧ SlV w 2 (a ++ b) s4 ∧ SlV w 2 (a ++ distV) s5 ∧
    w.cell? ⟨t, 0, none⟩ = some (.string ⟨#[115, 101, 116]⟩) ∧ w.cell? ⟨t, 1, none⟩ = some s0 ∧ w.cell? ⟨t, 2, none⟩ = some (.string ⟨#[109, 111, 118, 101]⟩) ∧ w.cell? ⟨t, 3, none⟩ = some s1 ∧ w.cell? ⟨t, 4, none⟩ = some (.string ⟨#[99, 111, 110, 115]⟩) ∧ w.cell? ⟨t, 5, none⟩ = some s2 ∧ w.cell? ⟨t, 6, none⟩ = some (.string ⟨#[104, 101, 97, 100]⟩) ∧ w.cell? ⟨t, 7, none⟩ = some s3 ∧ w.cell? ⟨t, 8, none⟩ = some (.string ⟨#[116, 97, 105, 108]⟩) ∧ w.cell? ⟨t, 9, none⟩ = some s4 ∧ w.cell? ⟨t, 10, none⟩ = some (.string ⟨#[106, 117, 109, 112]⟩) ∧ w.cell? ⟨t, 11, none⟩ = some s5
theorem TabCells.below {w w1 : World} {a b c : List Value} {t : Nat} (h : TabCells w a b c t) (hb : Below w.heap.size w w1) : TabCells w1 a b c t := by
  obtain ⟨h4, s0, s1, s2, s3, s4, s5, a0, a1, a2, a3, a4, a5, c⟩ := h
  refine ⟨Nat.lt_of_lt_of_le h4 hb.size, s0, s1, s2, s3, s4, s5, a0.below hb, a1.below hb, a2.below hb, a3.below hb, a4.below hb, a5.below hb, ?_⟩
  have e : ∀ o, w1.cell? ⟨t, o, none⟩ = w.cell? ⟨t, o, none⟩ := fun o => hb.cell (p := ⟨t, o, none⟩) h4
  simpa only [e] using c
def opSlot (j : Nat) : Nat := if j = 27 then 0 else j + 7
theorem opSlot_ne {i j : Nat} (h : j ≠ i) : opSlot j ≠ opSlot i := by unfold opSlot; split <;> split <;> omega
def NameSl (w : World) (nm : ByteArray) (n : Nat) (cs : List Value) (x : Value) : Prop := ∃ s, x = .agg #[.string nm, s] ∧ SlV w n cs s
theorem NameSl.below {w w1 : World} {nm : ByteArray} {n : Nat} {cs : List Value} {x : Value} (h : NameSl w nm n cs x) (hb : Below w.heap.size w w1) : NameSl w1 nm n cs x := by
  obtain ⟨s, h1, h2⟩ := h
  exact ⟨s, h1, h2.below hb⟩
inductive Kd
  | val (y : Value)
  | sl (n : Nat) (cs : List Value)
  | nsl (nm : ByteArray) (n : Nat) (cs : List Value)
  | arr
  | ptr
def kd (a b c : List Value) : Nat → Kd
  | 0 | 4 | 8 | 13 | 17 | 21 => .val (.agg a.toArray)
  | 5 | 9 | 14 | 18 => .val (.agg b.toArray)
  | 10 => .val (.agg c.toArray)
  | 1 => .val (.agg conV.toArray)
  | 22 => .val (.agg distV.toArray)
  | 2 => .sl 2 (a ++ conV)
  | 6 | 15 | 19 => .sl 2 (a ++ b)
  | 11 => .sl 3 (a ++ b ++ c)
  | 23 => .sl 2 (a ++ distV)
  | 3 => .nsl ⟨#[115, 101, 116]⟩ 2 (a ++ conV)
  | 7 => .nsl ⟨#[109, 111, 118, 101]⟩ 2 (a ++ b)
  | 12 => .nsl ⟨#[99, 111, 110, 115]⟩ 3 (a ++ b ++ c)
  | 16 => .nsl ⟨#[104, 101, 97, 100]⟩ 2 (a ++ b)
  | 20 => .nsl ⟨#[116, 97, 105, 108]⟩ 2 (a ++ b)
  | 24 => .nsl ⟨#[106, 117, 109, 112]⟩ 2 (a ++ distV)
  | 25 => .arr
  | _ => .ptr
def Kd.ok (a b c : List Value) (w : World) (x : Value) : Kd → Prop
  | .val y => x = y
  | .sl n cs => SlV w n cs x
  | .nsl nm n cs => NameSl w nm n cs x
  | .arr => ∃ s0 s1 s2 s3 s4 s5, x = .agg #[.string ⟨#[115, 101, 116]⟩, s0, .string ⟨#[109, 111, 118, 101]⟩, s1, .string ⟨#[99, 111, 110, 115]⟩, s2, .string ⟨#[104, 101, 97, 100]⟩, s3, .string ⟨#[116, 97, 105, 108]⟩, s4, .string ⟨#[106, 117, 109, 112]⟩, s5] ∧
    SlV w 2 (a ++ conV) s0 ∧ SlV w 2 (a ++ b) s1 ∧ SlV w 3 (a ++ b ++ c) s2 ∧ SlV w 2 (a ++ b) s3 ∧ SlV w 2 (a ++ b) s4 ∧ SlV w 2 (a ++ distV) s5
  | .ptr => ∃ t, x = .pointer (some ⟨t, 0, none⟩) ∧ TabCells w a b c t
/-- what the slot of operation j holds once it has been carried out -/
def Gd (a b c : List Value) (w : World) (j : Nat) (x : Value) : Prop := (kd a b c j).ok a b c w x
theorem Gd.below {a b c : List Value} {w w1 : World} {j : Nat} {x : Value} (h : Gd a b c w j x) (hb : Below w.heap.size w w1) : Gd a b c w1 j x := by
  unfold Gd at *
  generalize kd a b c j = k at *
  cases k with
  | val y => exact h
  | sl n cs => exact SlV.below h hb
  | nsl nm n cs => exact NameSl.below h hb
  | arr =>
    obtain ⟨s0, s1, s2, s3, s4, s5, e, a0, a1, a2, a3, a4, a5⟩ := h
    exact ⟨s0, s1, s2, s3, s4, s5, e, a0.below hb, a1.below hb, a2.below hb, a3.below hb, a4.below hb, a5.below hb⟩
  | ptr =>
    obtain ⟨t, e, h⟩ := h
    exact ⟨t, e, h.below hb⟩
theorem Gd.step {a b c : List Value} {w w1 : World} {listed : Array Bool} {i s : Nat} {v : Nat → Value} {x : Value} (hs : opSlot i = s) (hb : Below w.heap.size w w1)
    (hG : ∀ j, listed.getD j false = true → Gd a b c w j (v (opSlot j))) (hx : Gd a b c w1 i x) :
    ∀ j, (listed.setIfInBounds i true).getD j false = true → Gd a b c w1 j ((fun k => if k = s then x else v k) (opSlot j)) := by
  intro j hj
  by_cases h : j = i
  · subst h; simp only [hs, if_true]; exact hx
  · have h1 := opSlot_ne h
    rw [hs] at h1
    simp only [if_neg h1]
    exact (hG j (by rwa [getD_set_ne false (Ne.symm h)] at hj)).below hb
theorem dep {md : Region.Mode} {ops : Array Oper} {listed : Array Bool} {i : Nat} {o : Oper} (hi : i ∈ Region.ready md ops listed) (ho : ops[i]? = some o) (e : Edge) (he : e ∈ o.after) (hb : Region.binds md e = true) : listed.getD e.on false = true := by
  obtain ⟨_, o', ho', h⟩ := mem_ready.1 hi
  rw [ho] at ho'
  obtain rfl := Option.some.inj ho'
  exact h e he hb

end Go.Proofs.YtlfoigkpfooopaaGreatDoor
