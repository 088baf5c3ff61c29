/- What the functions of package univ write, one after the other. By an AI agent. -/
import Derived.Test.YtkpfocgcnehajabGreatDoorPlanB
import Derived.Test.YtkpfocgcnehajabGreatDoorShelfC
namespace Go.Proofs.YtkpfocgcnehajabGreatDoor
open Go.RowKit Go.Maps Pl

/-- the library's table that Itoa looks into -/
def TabE (w : World) : Prop := Lib.TabIs Tryz.prog w "internal/strconv.uint64pow10" .u64 Lib.pow10Tab
theorem TabE.below {w w' : World} (h : TabE w) (hb : Below w.heap.size w w') : TabE w' := by
  unfold TabE Lib.TabIs World.var? at *
  cases hg : Tryz.prog.globalNamed "internal/strconv.uint64pow10" with
  | none => rw [hg] at h; cases h
  | some g =>
    rw [hg] at h
    simp only [Option.bind_some] at h ⊢
    have hlt : g < w.heap.size := by
      rcases Nat.lt_or_ge g w.heap.size with h1 | h1
      · exact h1
      · rw [Array.getElem?_eq_none h1] at h; cases h
    rw [hb.block g hlt]; exact h
/-- a number below 1000, in decimal -/
def dg3 (k : Nat) : List UInt8 :=
  if k < 10 then [UInt8.ofNat (48 + k)] else if k < 100 then [UInt8.ofNat (48 + k / 10), UInt8.ofNat (48 + k % 10)] else [UInt8.ofNat (48 + k / 10 / 10), UInt8.ofNat (48 + k / 10 % 10), UInt8.ofNat (48 + k % 10)]
theorem dg3_len (k : Nat) : (dg3 k).length ≤ 3 := by
  unfold dg3; split
  · simp
  · split <;> simp
theorem itoa_dg3 {k : Nat} (h : k < 1000) : Lib.itoa (k : Int) = dg3 k := by
  unfold Lib.itoa dg3
  rw [if_neg (by omega), Int.toNat_natCast, Lib.decDigits]
  by_cases h1 : k < 10
  · rw [dif_pos h1, if_pos h1]
  · rw [dif_neg h1, if_neg h1, Lib.decDigits]
    by_cases h2 : k < 100
    · rw [dif_pos (by omega), if_pos h2]; rfl
    · rw [dif_neg (by omega), if_neg h2, Lib.decDigits, dif_pos (by omega)]; rfl
theorem tab_grow (w : World) (k : Nat) (os : Array Obj) : Below w.heap.size w (Go.Sort.grow (w.drewN k) os) :=
  ⟨rfl, rfl, rfl, by simp [Go.Sort.grow], fun j hj => by show (w.heap ++ os)[j]? = _; rw [Array.getElem?_append_left hj]⟩
theorem itoa_p (n : Nat) (w : World) (hn : n < 1000) (hE : TabE w) : Calls Tryz.prog 125 #[.int .i64 (n : Int)] w fun e w' => e = .returned (.string (S (dg3 n))) ∧ Below w.heap.size w w' :=
  (Tryz.strconv_Itoa (n : Int) (by omega) (by omega) w hE).mono fun e w' h => by
    obtain ⟨he, k, os, rfl⟩ := h
    rw [itoa_dg3 hn] at he
    exact ⟨he, tab_grow w k os⟩
/-- a plan, as plain lists: the instructions, the places (the last one first), the jumps -/
structure Pl3 where
  ps : List Ins
  M : List (List UInt8 × Nat)
  L : List (Nat × List UInt8)
namespace Pl3
def wr (s : Pl3) (x : Ins) : Pl3 := ⟨s.ps ++ [x], s.M, s.L⟩
def place (s : Pl3) (n : List UInt8) : Pl3 := ⟨s.ps, (n, s.ps.length) :: s.M, s.L⟩
def jumpTo (s : Pl3) (n : List UInt8) (a : Int) : Pl3 := ⟨s.ps ++ [jumpI a 0], s.M, s.L ++ [(s.ps.length, n)]⟩
def aN (k : Nat) : List UInt8 := [97, 103, 97, 105, 110, 32] ++ dg3 k
def tN (k : Nat) : List UInt8 := [116, 101, 115, 116, 32] ++ dg3 k
def rep (s : Pl3) (a : Int) (body : Pl3 → Pl3) : Pl3 :=
  ((body ((s.jumpTo (tN s.ps.length) 10).place (aN s.ps.length))).place (tN s.ps.length)).jumpTo (aN s.ps.length) a
def shift (s : Pl3) (t f : Int) : Pl3 := ((s.wr (headI 2 f)).wr (consI t 2 t)).wr (tailI f f)
def read (s : Pl3) (a i : Int) : Pl3 := ((s.wr (moveI a 0)).rep i fun s => (s.wr (tailI a a)).wr (tailI i i)).wr (headI a a)
end Pl3
def Ok (n : Nat) (s : Pl3) : Prop := s.ps.length ≤ n ∧ s.M.length ≤ n ∧ s.L.length ≤ n
theorem Ok.wr {n : Nat} {s : Pl3} (h : Ok n s) (x : Ins) : Ok (n + 1) (s.wr x) := ⟨by simp [Pl3.wr]; exact h.1, by have := h.2.1; simp [Pl3.wr]; omega, by have := h.2.2; simp [Pl3.wr]; omega⟩
theorem Ok.place {n : Nat} {s : Pl3} (h : Ok n s) (x : List UInt8) : Ok (n + 1) (s.place x) := ⟨by have := h.1; simp [Pl3.place]; omega, by simp [Pl3.place]; exact h.2.1, by have := h.2.2; simp [Pl3.place]; omega⟩
theorem Ok.jumpTo {n : Nat} {s : Pl3} (h : Ok n s) (x : List UInt8) (a : Int) : Ok (n + 1) (s.jumpTo x a) := ⟨by simp [Pl3.jumpTo]; exact h.1, by have := h.2.1; simp [Pl3.jumpTo]; omega, by simp [Pl3.jumpTo]; exact h.2.2⟩
theorem Ok.mono {m n : Nat} {s : Pl3} (h : Ok m s) (hn : m ≤ n) : Ok n s := ⟨by have := h.1; omega, by have := h.2.1; omega, by have := h.2.2; omega⟩
/-- the plan in memory, in a world that came out of w0 -/
structure PlanS (w0 w : World) (X mb : Nat) (H : Type) (s : Pl3) : Prop where
  plan : PlanIs w X mb H s.ps s.M s.L
  base : Below w0.heap.size w0 w
  low : w0.heap.size ≤ mb
  tab : TabE w0
theorem PlanS.lowX {w0 w : World} {X mb : Nat} {H : Type} {s : Pl3} (h : PlanS w0 w X mb H s) : w0.heap.size ≤ X := by
  obtain ⟨v, lv, hp⟩ := h.plan
  have := hp.mlt; have := h.low; omega
theorem PlanS.later {w0 w w' : World} {X mb : Nat} {H : Type} {s : Pl3} (h : PlanS w0 w X mb H s) (hb : Below w.heap.size w w') : PlanS w0 w' X mb H s := by
  obtain ⟨v, lv, hp⟩ := h.plan
  exact ⟨⟨v, lv, hp.later hb⟩, bstep h.base hb, h.low, h.tab⟩
def PostS (w0 : World) (X mb : Nat) (H : Type) (s : Pl3) (w : World) (e : Ending) (w' : World) : Prop := e = .returned (.tuple #[]) ∧ PlanS w0 w' X mb H s ∧ Kept w w'
theorem Kept.trans {a b c : World} (h : Kept a b) (k : Kept b c) : Kept a c := fun q o ty fr hq ht => by
  have h1 := h q o ty fr hq ht
  exact (k q o ty fr (h1.trans hq) ht).trans h1
theorem Kept.of_below {w w' : World} (h : Below w.heap.size w w') : Kept w w' := fun k _ _ _ hk _ => h.block k (Array.getElem?_eq_some_iff.1 hk).1
/-- the box of a pointer to the plan, of a number -/
def BoxP (w : World) (b X : Nat) : Prop := w.heap[b]? = some (.cells #[.pointer (some ⟨X, 0, none⟩)] 140 (0, 0))
def BoxI (w : World) (b : Nat) (n : Int) : Prop := w.heap[b]? = some (.cells #[.int .i64 n] 3 (0, 0))
theorem BoxP.kept {w w' : World} {b X : Nat} (h : BoxP w b X) (k : Kept w w') : BoxP w' b X := (k b _ _ _ h (.inl rfl)).trans h
theorem BoxI.kept {w w' : World} {b : Nat} {n : Int} (h : BoxI w b n) (k : Kept w w') : BoxI w' b n := (k b _ _ _ h (.inr rfl)).trans h
theorem BoxP.cell {w : World} {b X : Nat} (h : BoxP w b X) : w.cell? ⟨b, 0, none⟩ = some (.pointer (some ⟨X, 0, none⟩)) := Lib.cell_of_heap h 0
theorem BoxI.cell {w : World} {b : Nat} {n : Int} (h : BoxI w b n) : w.cell? ⟨b, 0, none⟩ = some (.int .i64 n) := Lib.cell_of_heap h 0
theorem c_head {w0 w : World} {X mb : Nat} {H : Type} {s : Pl3} (a b : Int) (h : PlanS w0 w X mb H s) (hk : Ok 5000 s) :
    Calls Tryz.prog 65 #[.pointer (some ⟨X, 0, none⟩), .int .i64 a, .int .i64 b] w (PostS w0 X mb H (s.wr (headI a b)) w) := by
  refine (phead_any w w0.heap.size X mb H s.ps s.M s.L a b h.plan h.lowX (by have := hk.1; omega)).mono ?_
  rintro e w' ⟨rfl, h1, h2⟩
  exact ⟨rfl, ⟨h1, h.base.trans h2.below, h.low, h.tab⟩, h2.kept⟩
theorem c_tail {w0 w : World} {X mb : Nat} {H : Type} {s : Pl3} (a b : Int) (h : PlanS w0 w X mb H s) (hk : Ok 5000 s) :
    Calls Tryz.prog 66 #[.pointer (some ⟨X, 0, none⟩), .int .i64 a, .int .i64 b] w (PostS w0 X mb H (s.wr (tailI a b)) w) := by
  refine (ptail_any w w0.heap.size X mb H s.ps s.M s.L a b h.plan h.lowX (by have := hk.1; omega)).mono ?_
  rintro e w' ⟨rfl, h1, h2⟩
  exact ⟨rfl, ⟨h1, h.base.trans h2.below, h.low, h.tab⟩, h2.kept⟩
theorem c_move {w0 w : World} {X mb : Nat} {H : Type} {s : Pl3} (a b : Int) (h : PlanS w0 w X mb H s) (hk : Ok 5000 s) :
    Calls Tryz.prog 167 #[.pointer (some ⟨X, 0, none⟩), .int .i64 a, .int .i64 b] w (PostS w0 X mb H (s.wr (moveI a b)) w) := by
  refine (pmove_any w w0.heap.size X mb H s.ps s.M s.L a b h.plan h.lowX (by have := hk.1; omega)).mono ?_
  rintro e w' ⟨rfl, h1, h2⟩
  exact ⟨rfl, ⟨h1, h.base.trans h2.below, h.low, h.tab⟩, h2.kept⟩
theorem c_cons {w0 w : World} {X mb : Nat} {H : Type} {s : Pl3} (a b c : Int) (h : PlanS w0 w X mb H s) (hk : Ok 5000 s) :
    Calls Tryz.prog 64 #[.pointer (some ⟨X, 0, none⟩), .int .i64 a, .int .i64 b, .int .i64 c] w (PostS w0 X mb H (s.wr (consI a b c)) w) := by
  refine (pcons_any w w0.heap.size X mb H s.ps s.M s.L a b c h.plan h.lowX (by have := hk.1; omega)).mono ?_
  rintro e w' ⟨rfl, h1, h2⟩
  exact ⟨rfl, ⟨h1, h.base.trans h2.below, h.low, h.tab⟩, h2.kept⟩
theorem c_set {w0 w : World} {X mb : Nat} {H : Type} {s : Pl3} (a : Int) (t : List UInt8) (ht : t.length ≤ 1000000) (h : PlanS w0 w X mb H s) (hk : Ok 5000 s) :
    Calls Tryz.prog 63 #[.pointer (some ⟨X, 0, none⟩), .int .i64 a, .string (S t)] w (PostS w0 X mb H (s.wr (setI a t)) w) := by
  refine (pset_any w w0.heap.size X mb H s.ps s.M s.L a t h.plan h.lowX (by have := hk.1; omega) (by omega)).mono ?_
  rintro e w' ⟨rfl, h1, h2⟩
  exact ⟨rfl, ⟨h1, h.base.trans h2.below, h.low, h.tab⟩, h2.kept⟩
theorem c_place {w0 w : World} {X mb : Nat} {H : Type} {s : Pl3} (n : List UInt8) (hs : n.length ≤ 1000000) (h : PlanS w0 w X mb H s) (hk : Ok 5000 s) :
    Calls Tryz.prog 123 #[.pointer (some ⟨X, 0, none⟩), .string (S n)] w (PostS w0 X mb H (s.place n) w) := by
  refine (place_any w w0.heap.size X mb H s.ps s.M s.L n h.plan h.low (by have := hk.1; omega) (by have := hk.2.1; omega) hs).mono ?_
  rintro e w' ⟨rfl, h1, h2⟩
  exact ⟨rfl, ⟨h1, h.base.trans h2.below, h.low, h.tab⟩, h2.kept⟩
theorem c_jump {w0 w : World} {X mb : Nat} {H : Type} {s : Pl3} (n : List UInt8) (a : Int) (h : PlanS w0 w X mb H s) (hk : Ok 5000 s) :
    Calls Tryz.prog 122 #[.pointer (some ⟨X, 0, none⟩), .string (S n), .int .i64 a] w (PostS w0 X mb H (s.jumpTo n a) w) := by
  refine (jumpTo_any w w0.heap.size X mb H s.ps s.M s.L n a h.plan h.lowX (by have := hk.1; omega) (by have := hk.2.2; omega)).mono ?_
  rintro e w' ⟨rfl, h1, h2⟩
  exact ⟨rfl, ⟨h1, h.base.trans h2.below, h.low, h.tab⟩, h2.kept⟩
theorem Kept.refl (w : World) : Kept w w := fun _ _ _ _ _ _ => rfl
set_option maxHeartbeats 1600000 in
set_option maxRecDepth 100000 in
theorem c_shift {w0 w1 : World} {X mb : Nat} {H : Type} {s : Pl3} (t f : Int) (h : PlanS w0 w1 X mb H s) (hk : Ok 4990 s) :
    Calls Tryz.prog 129 #[.pointer (some ⟨X, 0, none⟩), .int .i64 t, .int .i64 f] w1 (PostS w0 X mb H (s.shift t f) w1) := by
  have H1 := Lib.hid h; have K1 := Lib.hid (Kept.refl w1)
  clear h
  go_enter Tryz.func129, Tryz.ntmps129
  go_wp2_with fail
  refine (c_head 2 f H1.out (hk.mono (by omega))).mono ?_
  rintro e w2 ⟨rfl, h, k⟩
  have H2 := Lib.hid h; have K2 := Lib.hid (K1.out.trans k)
  clear h k
  go_wp2_with fail
  refine (c_cons t 2 t H2.out ((hk.wr _).mono (by omega))).mono ?_
  rintro e w3 ⟨rfl, h, k⟩
  have H3 := Lib.hid h; have K3 := Lib.hid (K2.out.trans k)
  clear h k
  go_wp2_with fail
  refine (c_tail f f H3.out (((hk.wr _).wr _).mono (by omega))).mono ?_
  rintro e w4 ⟨rfl, h, k⟩
  have H4 := Lib.hid h; have K4 := Lib.hid (K3.out.trans k)
  clear h k
  go_wp2
  go_end0
  exact ⟨rfl, H4.out, K4.out⟩
theorem S_app_mk (a b : List UInt8) : (⟨a.toArray⟩ : ByteArray) ++ S b = S (a ++ b) := by
  rw [S]; simp [S, ByteArray.ext_iff]
set_option maxHeartbeats 1600000 in
set_option maxRecDepth 100000 in
theorem c_repeat {w0 w1 : World} {X mb : Nat} {H : Type} {s : Pl3} (a : Int) (g : Nat) (caps : Array Value) (body : Pl3 → Pl3) (d : Nat) (h : PlanS w0 w1 X mb H s) (hk : Ok 900 s) (hd : d ≤ 50)
    (eg : ∀ args w, (callFunc g args).run Tryz.prog w = .ok (.enter g args) w)
    (hO : ∀ n s, Ok n s → Ok (n + d) (body s))
    (hB : ∀ W s', Kept w1 W → PlanS w0 W X mb H s' → Ok 950 s' → Calls Tryz.prog g caps W (PostS w0 X mb H (body s') W)) :
    Calls Tryz.prog 127 #[.pointer (some ⟨X, 0, none⟩), .int .i64 a, .func (.func g) #[] caps] w1 (PostS w0 X mb H (s.rep a body) w1) := by
  have H1 := Lib.hid h; have K1 := Lib.hid (Kept.refl w1)
  have HI := Lib.hid (fun W (hb : Below w0.heap.size w0 W) => itoa_p s.ps.length W (by have := hk.1; omega) (h.tab.below hb))
  obtain ⟨v, lv, hp⟩ := h.plan
  obtain ⟨A, c, rfl⟩ : ∃ A c, v = .slice A s.ps.length c := by
    rcases hp.own.2 with ⟨rfl, h0⟩ | ⟨g, cap, cur, rfl, _⟩
    · exact ⟨none, 0, by rw [h0]⟩
    · exact ⟨_, _, rfl⟩
  have c0 : w1.cell? ⟨X, 0, none⟩ = some (.slice A s.ps.length c) := Lib.cell_of_heap hp.mem 0
  have HB := Lib.hid hB; have HO := Lib.hid hO
  have HK := Lib.hid hk
  have hd6 : ¬ 9223372036854775807 < 6 + (dg3 s.ps.length).length := by have := dg3_len s.ps.length; omega
  have hd5 : ¬ 9223372036854775807 < 5 + (dg3 s.ps.length).length := by have := dg3_len s.ps.length; omega
  have HDL := Lib.hid (dg3_len s.ps.length)
  clear h hB hO hp hk
  generalize hl : s.ps.length = k at *
  have HLK := Lib.hid hl
  clear hl
  go_enter Tryz.func127, Tryz.ntmps127
  go_wp2_with fail
  refine (HI.out _ H1.out.base).mono ?_
  rintro e w2 ⟨rfl, hb⟩
  have H2 := Lib.hid (H1.out.later hb); have K2 := Lib.hid (Kept.of_below hb)
  clear hb c0
  have HT : Hid ((⟨#[116, 101, 115, 116, 32]⟩ : ByteArray) ++ S (dg3 k) = S (Pl3.tN k)) := Lib.hid (S_app_mk [116, 101, 115, 116, 32] _)
  have HAG : Hid ((⟨#[97, 103, 97, 105, 110, 32]⟩ : ByteArray) ++ S (dg3 k) = S (Pl3.aN k)) := Lib.hid (S_app_mk [97, 103, 97, 105, 110, 32] _)
  have HLA : Hid ((Pl3.aN k).length ≤ 1000000 ∧ (Pl3.tN k).length ≤ 1000000) := Lib.hid ⟨by have := HDL.out; simp [Pl3.aN]; omega, by have := HDL.out; simp [Pl3.tN]; omega⟩
  go_wp2_with fail
  have hc := c_jump (Pl3.tN k) 10 H2.out (HK.out.mono (by omega))
  rw [← HT.out] at hc
  refine hc.mono ?_
  rintro e w3 ⟨rfl, h, k9⟩
  have H3 := Lib.hid h; have K3 := Lib.hid (K2.out.trans k9)
  clear h k9 hc
  go_wp2_with fail
  have hc := c_place (Pl3.aN k) HLA.out.1 H3.out ((HK.out.jumpTo _ _).mono (by omega))
  rw [← HAG.out] at hc
  refine hc.mono ?_
  rintro e w4 ⟨rfl, h, k9⟩
  have H4 := Lib.hid h; have K4 := Lib.hid (K3.out.trans k9)
  clear h k9 hc
  go_wp2_with fail
  refine (HB.out _ _ K4.out H4.out (((HK.out.jumpTo _ _).place _).mono (by omega))).mono ?_
  rintro e w5 ⟨rfl, h, k9⟩
  have H5 := Lib.hid h; have K5 := Lib.hid (K4.out.trans k9)
  clear h k9
  go_wp2_with fail
  have hc := c_place (Pl3.tN k) HLA.out.2 H5.out ((HO.out _ _ ((HK.out.jumpTo _ _).place _)).mono (by omega))
  rw [← HT.out] at hc
  refine hc.mono ?_
  rintro e w6 ⟨rfl, h, k9⟩
  have H6 := Lib.hid h; have K6 := Lib.hid (K5.out.trans k9)
  clear h k9 hc
  go_wp2_with fail
  have hc := c_jump (Pl3.aN k) a H6.out (((HO.out _ _ ((HK.out.jumpTo _ _).place _)).place _).mono (by omega))
  rw [← HAG.out] at hc
  refine hc.mono ?_
  rintro e w7 ⟨rfl, h, k9⟩
  have H7 := Lib.hid h; have K7 := Lib.hid (K6.out.trans k9)
  clear h k9 hc
  go_wp2
  go_end0
  exact ⟨rfl, by unfold Pl3.rep; rw [HLK.out]; exact H7.out, K7.out⟩
end Go.Proofs.YtkpfocgcnehajabGreatDoor
