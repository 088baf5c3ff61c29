/- Trees as nodes that may be shared, and size, cons, head, tail of both packages. By an AI agent. -/
import Derived.Test.YtmhoacnbmbhcjaaGreatDoorMth
import Derived.Test.YtmhoacnbmbhcjaaGreatDoorPrg
import Derived.Deep.RegionHeld3
import Derived.StillTailTactics
import Derived.Outline
import Derived.Deep.AppendLies
import Derived.Test.YtmhoacnbmbhcjaaGreatDoorLsts
import Derived.Deep.QuietTactic
import Derived.BigQuiet
namespace Go.Proofs.YtmhoacnbmbhcjaaGreatDoor
open Go.RowKit Pl

/-- a value that is a tree of nodes in what is read -/
def NodeC (c : Nat → Nat → Value → Prop) : Tr → Value → Prop
  | .nil, v => v = .pointer none
  | .pair a b, v => ∃ B o x y, v = .pointer (some ⟨B, o, none⟩) ∧ c B o x ∧ c B (o + 1) y ∧ c B (o + 2) (.int .i64 ((tx (.pair a b)).length : Nat)) ∧ NodeC c a x ∧ NodeC c b y
theorem NodeC.mono {c d : Nat → Nat → Value → Prop} (h : ∀ b o x, c b o x → d b o x) : ∀ {t : Tr} {v : Value}, NodeC c t v → NodeC d t v := by
  intro t
  induction t with
  | nil => intro v hv; exact hv
  | pair a b iha ihb =>
    rintro v ⟨B, o, x, y, rfl, h1, h2, h3, h4, h5⟩
    exact ⟨B, o, x, y, rfl, h _ _ _ h1, h _ _ _ h2, h _ _ _ h3, iha h4, ihb h5⟩
/-- a block of cells of one element type -/
def TagB (w : World) (b : Nat) (τ : TypeId) : Prop := ∃ (C : Array Value) (_ : Unit), w.heap[b]? = some (.cells C τ (0, 0))
theorem TagB.lt {w : World} {b : Nat} {τ : TypeId} (h : TagB w b τ) : b < w.heap.size := by
  obtain ⟨C, fr, h⟩ := h; exact (Array.getElem?_eq_some_iff.1 h).1
theorem TagB.ne {w : World} {b : Nat} {σ τ : TypeId} (h : TagB w b σ) (hne : σ ≠ τ) : ¬ TagB w b τ := by
  rintro ⟨C, fr, h1⟩
  obtain ⟨D, gr, h2⟩ := h
  rw [h1] at h2; cases h2; exact hne rfl
/-- the cells of a world in the blocks of one element type -/
def CellsAt (τ : TypeId) (w : World) (b o : Nat) (x : Value) : Prop := TagB w b τ ∧ w.cell? ⟨b, o, none⟩ = some x
abbrev NodeW (τ : TypeId) (w : World) (t : Tr) (v : Value) : Prop := NodeC (CellsAt τ w) t v
/-- the blocks of an element type are as they were -/
structure KeepT (τ : TypeId) (w w' : World) : Prop where
  size : w.heap.size ≤ w'.heap.size
  block : ∀ b, TagB w b τ → w'.heap[b]? = w.heap[b]?
theorem KeepT.refl (τ : TypeId) (w : World) : KeepT τ w w := ⟨Nat.le_refl _, fun _ _ => rfl⟩
theorem TagB.keep {w w' : World} {b : Nat} {τ : TypeId} (h : TagB w b τ) (hk : KeepT τ w w') : TagB w' b τ := by
  obtain ⟨C, fr, h1⟩ := h
  exact ⟨C, fr, by rw [hk.block b ⟨C, fr, h1⟩, h1]⟩
theorem KeepT.trans {τ : TypeId} {a b c : World} (h : KeepT τ a b) (k : KeepT τ b c) : KeepT τ a c :=
  ⟨Nat.le_trans h.size k.size, fun x hx => (k.block x (hx.keep h)).trans (h.block x hx)⟩
theorem KeepT.below {τ : TypeId} {w w' : World} (h : Below w.heap.size w w') : KeepT τ w w' := ⟨h.size, fun _ hb => h.block _ hb.lt⟩
theorem KeepT.alloc (τ : TypeId) (w : World) (o : Obj) : KeepT τ w (w.alloc o) := KeepT.below ((Below.refl _ _).alloc (Nat.le_refl _) o)
theorem KeepT.drewN (τ : TypeId) (w : World) (n : Nat) : KeepT τ w (w.drewN n) := ⟨Nat.le_refl _, fun _ _ => rfl⟩
theorem KeepT.setCell {τ : TypeId} {w : World} {a : Addr} (h : ¬ TagB w a.block τ) (u : Value) : KeepT τ w (w.setCell a u) :=
  ⟨by simp [World.setCell], fun b hb => Below.heap_setCell w a u b (fun e => h (e ▸ hb))⟩
theorem KeepT.grown {τ : TypeId} {w w' : World} {row : Option Nat} (hg : w.grownBy w' row) (h : ∀ k, row = some k → ¬ TagB w k τ) : KeepT τ w w' :=
  ⟨hg.size, fun b hb => hg.block b hb.lt (fun e => h b e.symm hb)⟩
theorem NodeW.keep {τ : TypeId} {w w' : World} {t : Tr} {v : Value} (h : NodeW τ w t v) (hk : KeepT τ w w') : NodeW τ w' t v :=
  NodeC.mono (fun b o x ⟨h1, h2⟩ => ⟨h1.keep hk, by rw [← h2]; exact World.cell?_of_block (w := w) (a := ⟨b, o, none⟩) (hk.block b h1)⟩) h
theorem NodeW.below {τ : TypeId} {w w' : World} {t : Tr} {v : Value} (h : NodeW τ w t v) (hb : Below w.heap.size w w') : NodeW τ w' t v := h.keep (.below hb)
theorem tag_new (w : World) (C : Array Value) (τ : TypeId) : TagB (w.alloc (.cells C τ)) w.heap.size τ := ⟨C, (), heap_alloc_new w _⟩
theorem NodeC.ptr {c : Nat → Nat → Value → Prop} {t : Tr} {v : Value} (h : NodeC c t v) : (t = .nil ∧ v = .pointer none) ∨ (t ≠ .nil ∧ ∃ A : Addr, v = .pointer (some A)) := by
  cases t with
  | nil => exact .inl ⟨rfl, h⟩
  | pair a b => obtain ⟨B, o, x, y, rfl, _⟩ := h; exact .inr ⟨by simp, _, rfl⟩
theorem NodeC.one {c : Nat → Nat → Value → Prop} {t : Tr} {v : Value} (h : NodeC c t v) : ∃ A, v = .pointer A := by
  rcases h.ptr with ⟨_, h⟩ | ⟨_, A, h⟩ <;> exact ⟨_, h⟩
set_option maxHeartbeats 400000 in
set_option maxRecDepth 100000 in
theorem size_any (τ : TypeId) (w : World) (t : Tr) (v : Value) (h : NodeW τ w t v) :
    Calls Tryz.prog 183 #[v] w fun e w' => e = .returned (.int .i64 ((tx t).length : Nat)) ∧ w = w' := by
  cases t with
  | nil =>
    obtain rfl : v = .pointer none := h
    go_enter Tryz.func183, Tryz.ntmps183
    go_wp2
    go_ret
    exact ⟨rfl, rfl⟩
  | pair a b =>
    obtain ⟨B, o, x, y, rfl, h1, h2, ⟨_, h3⟩, h4, h5⟩ := h
    generalize (tx (.pair a b)).length = n at *
    go_enter Tryz.func183, Tryz.ntmps183
    go_wp2
    go_ret
    exact ⟨rfl, rfl⟩
set_option maxHeartbeats 400000 in
set_option maxRecDepth 100000 in
theorem rSize_any (τ : TypeId) (w : World) (t : Tr) (v : Value) (h : NodeW τ w t v) :
    Calls Tryz.prog 34 #[v] w fun e w' => e = .returned (.int .i64 ((tx t).length : Nat)) ∧ w = w' := by
  cases t with
  | nil =>
    obtain rfl : v = .pointer none := h
    go_enter Tryz.func34, Tryz.ntmps34
    go_wp2
    go_ret
    exact ⟨rfl, rfl⟩
  | pair a b =>
    obtain ⟨B, o, x, y, rfl, h1, h2, ⟨_, h3⟩, h4, h5⟩ := h
    generalize (tx (.pair a b)).length = n at *
    go_enter Tryz.func34, Tryz.ntmps34
    go_wp2
    go_ret
    exact ⟨rfl, rfl⟩
/-- the value of a part -/
def PartOf (τ : TypeId) (w : World) (t : Tr) (e : Ending) (w' : World) : Prop := ∃ v, e = .returned v ∧ NodeW τ w t v ∧ w = w'
set_option maxHeartbeats 400000 in
set_option maxRecDepth 100000 in
theorem head_any (τ : TypeId) (w : World) (t : Tr) (v : Value) (h : NodeW τ w t v) :
    Calls Tryz.prog 231 #[v] w (PartOf τ w (hdT t)) := by
  cases t with
  | nil =>
    obtain rfl : v = .pointer none := h
    go_enter Tryz.func231, Tryz.ntmps231
    go_wp2
    go_ret
    exact ⟨_, rfl, rfl, rfl⟩
  | pair a b =>
    obtain ⟨B, o, x, y, rfl, ⟨_, h1⟩, h2, h3, h4, h5⟩ := h
    have H4 := Lib.hid h4; clear h4
    go_enter Tryz.func231, Tryz.ntmps231
    go_wp2
    go_ret
    exact ⟨_, rfl, H4.out, rfl⟩
set_option maxHeartbeats 400000 in
set_option maxRecDepth 100000 in
theorem tail_any (τ : TypeId) (w : World) (t : Tr) (v : Value) (h : NodeW τ w t v) :
    Calls Tryz.prog 232 #[v] w (PartOf τ w (tlT t)) := by
  cases t with
  | nil =>
    obtain rfl : v = .pointer none := h
    go_enter Tryz.func232, Tryz.ntmps232
    go_wp2
    go_ret
    exact ⟨_, rfl, rfl, rfl⟩
  | pair a b =>
    obtain ⟨B, o, x, y, rfl, h1, ⟨_, h2⟩, h3, h4, h5⟩ := h
    have H5 := Lib.hid h5; clear h5
    go_enter Tryz.func232, Tryz.ntmps232
    go_wp2
    go_ret
    exact ⟨_, rfl, H5.out, rfl⟩
set_option maxHeartbeats 400000 in
set_option maxRecDepth 100000 in
theorem rFirst_any (τ : TypeId) (w : World) (t : Tr) (v : Value) (h : NodeW τ w t v) :
    Calls Tryz.prog 137 #[v] w (PartOf τ w (hdT t)) := by
  cases t with
  | nil =>
    obtain rfl : v = .pointer none := h
    go_enter Tryz.func137, Tryz.ntmps137
    go_wp2
    go_ret
    exact ⟨_, rfl, rfl, rfl⟩
  | pair a b =>
    obtain ⟨B, o, x, y, rfl, ⟨_, h1⟩, h2, h3, h4, h5⟩ := h
    have H4 := Lib.hid h4; clear h4
    go_enter Tryz.func137, Tryz.ntmps137
    go_wp2
    go_ret
    exact ⟨_, rfl, H4.out, rfl⟩
set_option maxHeartbeats 400000 in
set_option maxRecDepth 100000 in
theorem rRest_any (τ : TypeId) (w : World) (t : Tr) (v : Value) (h : NodeW τ w t v) :
    Calls Tryz.prog 138 #[v] w (PartOf τ w (tlT t)) := by
  cases t with
  | nil =>
    obtain rfl : v = .pointer none := h
    go_enter Tryz.func138, Tryz.ntmps138
    go_wp2
    go_ret
    exact ⟨_, rfl, rfl, rfl⟩
  | pair a b =>
    obtain ⟨B, o, x, y, rfl, h1, ⟨_, h2⟩, h3, h4, h5⟩ := h
    have H5 := Lib.hid h5; clear h5
    go_enter Tryz.func138, Tryz.ntmps138
    go_wp2
    go_ret
    exact ⟨_, rfl, H5.out, rfl⟩
/-- a pair that has just been made -/
theorem node_new {τ : TypeId} {w : World} {a b : Tr} {x y : Value} (ha : NodeW τ w a x) (hb : NodeW τ w b y) (n : Int) (hn : n = ((tx (.pair a b)).length : Nat)) :
    NodeW τ (w.alloc (.cells #[x, y, .int .i64 n] τ)) (.pair a b) (.pointer (some ⟨w.heap.size, 0, none⟩)) := by
  have hB := (Below.refl w.heap.size w).alloc (Nat.le_refl _) (.cells #[x, y, .int .i64 n] τ)
  subst hn
  exact ⟨_, _, x, y, rfl, ⟨tag_new _ _ _, by rw [World.cell?_alloc_new]; rfl⟩, ⟨tag_new _ _ _, by rw [World.cell?_alloc_new]; rfl⟩, ⟨tag_new _ _ _, by rw [World.cell?_alloc_new]; rfl⟩, ha.below hB, hb.below hB⟩
def ConsOut (τ : TypeId) (w : World) (t : Tr) (e : Ending) (w' : World) : Prop :=
  ∃ v, e = .returned v ∧ NodeW τ w' t v ∧ Below w.heap.size w w'
def ConsOut2 (τ : TypeId) (w : World) (t : Tr) (e : Ending) (w' : World) : Prop :=
  ∃ v, e = .returned (.tuple #[v, .bool true]) ∧ NodeW τ w' t v ∧ Below w.heap.size w w'
set_option maxHeartbeats 400000 in
set_option maxRecDepth 100000 in
theorem rCons_any (w : World) (a b : Tr) (x y : Value) (ha : NodeW 42 w a x) (hb : NodeW 42 w b y) (la : (tx a).length ≤ 2000000) (lb : (tx b).length ≤ 2000000) :
    Calls Tryz.prog 31 #[x, y] w (ConsOut 42 w (.pair a b)) := by
  obtain ⟨X, rfl⟩ := ha.one
  obtain ⟨Y, rfl⟩ := hb.one
  have H := Lib.hid (fun n hn => node_new ha hb n hn)
  have H1 := Lib.hid (fun W => rSize_any 42 W a (.pointer X))
  have H2 := Lib.hid (fun W => rSize_any 42 W b (.pointer Y))
  have HL := Lib.hid (tx_pair a b)
  have HA := Lib.hid ha; have HB := Lib.hid hb; clear ha hb
  generalize hm : (tx a).length = m at *
  generalize hk : (tx b).length = k at *
  clear hm hk
  go_enter Tryz.func31, Tryz.ntmps31
  go_wp2_with fail
  refine (H1.out _ HA.out).mono ?_
  rintro e w' ⟨rfl, rfl⟩
  go_wp2_with fail
  refine (H2.out _ HB.out).mono ?_
  rintro e w' ⟨rfl, rfl⟩
  go_wp2_with fail
  go_ret
  exact ⟨_, rfl, H.out _ (by rw [HL.out]; push_cast; rfl), (Below.refl _ _).alloc (Nat.le_refl _) _⟩
set_option maxHeartbeats 400000 in
set_option maxRecDepth 100000 in
theorem cons_yes (w : World) (a b : Tr) (x y : Value) (ha : NodeW 202 w a x) (hb : NodeW 202 w b y) (la : (tx (.pair a b)).length ≤ 2000000) :
    Calls Tryz.prog 230 #[x, y] w (ConsOut2 202 w (.pair a b)) := by
  obtain ⟨X, rfl⟩ := ha.one
  obtain ⟨Y, rfl⟩ := hb.one
  have H := Lib.hid (fun n hn => node_new ha hb n hn)
  have H1 := Lib.hid (fun W => size_any 202 W a (.pointer X))
  have H2 := Lib.hid (fun W => size_any 202 W b (.pointer Y))
  have HL := Lib.hid (tx_pair a b)
  have HA := Lib.hid ha; have HB := Lib.hid hb; clear ha hb
  rw [HL.out] at la
  generalize hm : (tx a).length = m at *
  generalize hk : (tx b).length = k at *
  clear hm hk
  have la' : (1 : Int) + (m : Int) + (k : Int) ≤ 2000000 := by omega
  go_enter Tryz.func230, Tryz.ntmps230
  go_wp2_with fail
  refine (H1.out _ HA.out).mono ?_
  rintro e w' ⟨rfl, rfl⟩
  go_wp2_with fail
  refine (H2.out _ HB.out).mono ?_
  rintro e w' ⟨rfl, rfl⟩
  go_wp2_with fail
  go_ret2
  exact ⟨_, rfl, H.out _ (by rw [HL.out]; push_cast; rfl), (Below.refl _ _).alloc (Nat.le_refl _) _⟩
set_option maxHeartbeats 400000 in
set_option maxRecDepth 100000 in
theorem cons_no (w : World) (a b : Tr) (x y : Value) (ha : NodeW 202 w a x) (hb : NodeW 202 w b y) (la : (tx a).length ≤ 2000000) (lb : (tx b).length ≤ 2000000) (hl : ¬ (tx (.pair a b)).length ≤ 2000000) :
    Calls Tryz.prog 230 #[x, y] w fun e w' => e = .returned (.tuple #[.pointer none, .bool false]) ∧ w = w' := by
  obtain ⟨X, rfl⟩ := ha.one
  obtain ⟨Y, rfl⟩ := hb.one
  have H1 := Lib.hid (fun W => size_any 202 W a (.pointer X))
  have H2 := Lib.hid (fun W => size_any 202 W b (.pointer Y))
  have HL := Lib.hid (tx_pair a b)
  have HA := Lib.hid ha; have HB := Lib.hid hb; clear ha hb
  rw [HL.out] at hl
  generalize hm : (tx a).length = m at *
  generalize hk : (tx b).length = k at *
  clear hm hk
  have la' : (2000000 : Int) < (1 : Int) + (m : Int) + (k : Int) := by omega
  clear hl
  go_enter Tryz.func230, Tryz.ntmps230
  go_wp2_with fail
  refine (H1.out _ HA.out).mono ?_
  rintro e w' ⟨rfl, rfl⟩
  go_wp2_with fail
  refine (H2.out _ HB.out).mono ?_
  rintro e w' ⟨rfl, rfl⟩
  go_wp2_with fail
  go_ret2
  exact ⟨rfl, rfl⟩
end Go.Proofs.YtmhoacnbmbhcjaaGreatDoor

namespace Go.Proofs.YtmhoacnbmbhcjaaGreatDoor
open Go.RowKit Pl

/-- values that are trees, one by one -/
def Stk (c : Nat → Nat → Value → Prop) : List Tr → List Value → Prop
  | [], [] => True
  | t :: ts, v :: vs => NodeC c t v ∧ Stk c ts vs
  | _, _ => False
theorem Stk.mono {c d : Nat → Nat → Value → Prop} (h : ∀ b o x, c b o x → d b o x) : ∀ {ts : List Tr} {vs : List Value}, Stk c ts vs → Stk d ts vs
  | [], [], _ => trivial
  | _ :: _, _ :: _, hs => ⟨NodeC.mono h hs.1, Stk.mono h hs.2⟩
  | [], _ :: _, hs => hs.elim
  | _ :: _, [], hs => hs.elim
theorem Stk.len {c : Nat → Nat → Value → Prop} : ∀ {ts : List Tr} {vs : List Value}, Stk c ts vs → vs.length = ts.length
  | [], [], _ => rfl
  | _ :: _, _ :: _, hs => by simp [hs.2.len]
  | [], _ :: _, hs => hs.elim
  | _ :: _, [], hs => hs.elim
theorem Stk.two {c : Nat → Nat → Value → Prop} {a b : Tr} {r : List Tr} {vs : List Value} (h : Stk c (a :: b :: r) vs) : ∃ x y u, vs = x :: y :: u ∧ NodeC c a x ∧ NodeC c b y ∧ Stk c r u := by
  match vs, h with
  | x :: y :: u, h => exact ⟨x, y, u, rfl, h.1, h.2.1, h.2.2⟩
  | [_], h => exact h.2.elim
  | [], h => exact h.elim
theorem Stk.one {c : Nat → Nat → Value → Prop} {a : Tr} {vs : List Value} (h : Stk c [a] vs) : ∃ x, vs = [x] ∧ NodeC c a x := by
  match vs, h with
  | [x], h => exact ⟨x, rfl, h.1⟩
  | _ :: _ :: _, h => exact h.2.elim
  | [], h => exact h.elim
theorem Stk.up {c : Nat → Nat → Value → Prop} {a : Tr} {r : List Tr} {vs : List Value} (h : Stk c (a :: r) vs) : ∃ x u, vs = x :: u ∧ NodeC c a x ∧ Stk c r u := by
  match vs, h with
  | x :: u, h => exact ⟨x, u, rfl, h.1, h.2⟩
  | [], h => exact h.elim
/-- the top of a row of the call's own: its cell, and the row without it -/
theorem own_top {w : World} {base n : Nat} {e : TypeId} {v : Value} {xs ys : List Value} {x : Value} (h : w.ownsRow base e 1 v n xs) (hx : xs = ys ++ [x]) :
    ∃ g cap, v = .slice (some ⟨g, 0, none⟩) (ys.length + 1) cap ∧ n = ys.length + 1 ∧ ys.length + 1 ≤ cap ∧ base ≤ g ∧ g < w.heap.size ∧ w.cell? ⟨g, ys.length, none⟩ = some x ∧ w.ownsRow base e 1 (.slice (some ⟨g, 0, none⟩) ys.length cap) ys.length ys := by
  subst hx
  have hn : n = ys.length + 1 := by have := h.1; simp at this; omega
  subst hn
  rcases h.2 with ⟨h1, h2⟩ | ⟨g, cap, cur, rfl, hb, hg, hle, hm, hs, ht⟩
  · omega
  · have hlt : g < w.heap.size := (Array.getElem?_eq_some_iff.1 hg).1
    refine ⟨g, cap, rfl, rfl, hle, hb, hlt, ?_, ?_⟩
    · rw [h.cellAt ys.length (by simp)]; simp
    · refine ⟨by simp, Or.inr ⟨g, cap, cur, rfl, hb, hg, by omega, hm, hs, ?_⟩⟩
      have h3 := congrArg (List.take (ys.length * 1)) ht
      rw [List.take_take, show min (ys.length * 1) ((ys.length + 1) * 1) = ys.length * 1 from by omega] at h3
      rw [h3]; simp
theorem own_below {B k n : Nat} {e : TypeId} {v : Value} {xs : List Value} {w w' : World} (h : w.ownsRow B e k v n xs) (hb : Below w.heap.size w w') : w'.ownsRow B e k v n xs :=
  h.kept (row := none) ⟨hb.os, hb.tape, hb.output, hb.size, fun k hk _ => hb.block k hk⟩ (by cases v.ownBlock <;> simp)
theorem own_tag {w : World} {base n k : Nat} {e : TypeId} {v : Value} {xs : List Value} {size : Nat} (h : w.ownsRow base e size v n xs) (hv : v.ownBlock = some k) : TagB w k e := by
  rcases h.2 with ⟨rfl, _⟩ | ⟨g, cap, cur, rfl, hb, hg, _⟩
  · cases hv
  · cases hv; exact ⟨cur, (), hg⟩
theorem own_apart {w : World} {B B' n m k k' : Nat} {e e' : TypeId} {v u : Value} {xs ys : List Value} (h : w.ownsRow B e k v n xs) (h' : w.ownsRow B' e' k' u m ys) (hne : e ≠ e') : v.ownBlock = none ∨ v.ownBlock ≠ u.ownBlock := by
  cases hv : v.ownBlock with
  | none => exact .inl rfl
  | some b => exact .inr fun hu => (own_tag h hv).ne hne (own_tag h' hu.symm)
theorem app_keep {τ e : TypeId} {w w1 : World} {base n : Nat} {size : Nat} {v : Value} {xs : List Value} (h : w.ownsRow base e size v n xs) (hg : w.grownBy w1 v.ownBlock) (hne : e ≠ τ) : KeepT τ w w1 :=
  KeepT.grown hg fun _ hk => (own_tag h hk).ne hne
theorem Stk.keep {τ : TypeId} {w w' : World} {ts : List Tr} {vs : List Value} (h : Stk (CellsAt τ w) ts vs) (hk : KeepT τ w w') : Stk (CellsAt τ w') ts vs :=
  h.mono fun b o x ⟨h1, h2⟩ => ⟨h1.keep hk, by rw [← h2]; exact World.cell?_of_block (w := w) (a := ⟨b, o, none⟩) (hk.block b h1)⟩
theorem rev_two (x y : Value) (u : List Value) : (x :: y :: u).reverse = (u.reverse ++ [y]) ++ [x] := by simp
theorem Tryz.infoRNode : (Tryz.prog.info? 36).map (fun i => (i.zero, i.size, i.bytes)) = some (some (.pointer none), 1, 8) := by kernel_rfl
theorem Tryz.infoNode : (Tryz.prog.info? 156).map (fun i => (i.zero, i.size, i.bytes)) = some (some (.pointer none), 1, 8) := by kernel_rfl

set_option maxHeartbeats 3200000 in
set_option maxRecDepth 100000 in
theorem rRead_any (s : ByteArray) (w : World) (hv : vld s.data.toList = true) :
    Calls Tryz.prog 30 #[.string s] w (ConsOut 42 w (rd s.data.toList)) := by
  obtain ⟨i0, hi, hz0, hz1, hz2⟩ := info_parts Tryz.infoRNode
  have hs := vld_size hv
  have HV := Lib.hid hv; clear hv
  go_enter Tryz.func30, Tryz.ntmps30
  go_wp2
  go_loopw [3, 4] (fun v i wr => ∃ (j : Nat) (ts : List Tr) (vs : List Value), j ≤ s.size ∧ i = .int .i64 ((j : Int) - 1) ∧ Hid (txs ts = s.data.toList.drop j) ∧ Hid (Stk (CellsAt 42 wr) ts vs) ∧ wr.ownsRow w.heap.size 36 1 v vs.length vs.reverse ∧ Below w.heap.size w wr) (fun _ i _ => (intOf i + 1).toNat)
  case atStart => exact ⟨s.size, [], [], Nat.le_refl _, rfl, Lib.hid (by rw [List.drop_of_length_le (by rw [len_eq]; exact Nat.le_refl _)]; rfl), Lib.hid trivial, World.ownsRow_nil _ _ _ _, Below.refl _ _⟩
  case round =>
    obtain ⟨j, ts, vs, hj, rfl, HT, HS, hown, hbw⟩ := hrel
    have hsz := hbw.size
    cases j with
    | zero =>
      have h1 : ts = [rd s.data.toList] := one_of HV.out (by rw [HT.out]; rfl)
      have HS' := HS.out
      rw [h1] at HS'
      obtain ⟨x, rfl, hx⟩ := HS'.one
      obtain ⟨g, cap, rfl, _, _, _, _, hcell, _⟩ := own_top (ys := []) hown rfl
      have HX := Lib.hid hx
      clear hx HS' hown h1
      rw [show ([] : List Value).length = 0 from rfl] at hcell ⊢
      go_wp2
      go_ret
      exact ⟨_, rfl, HX.out, hbw⟩
    | succ k =>
      rw [show ((k + 1 : Nat) : Int) - 1 = (k : Int) from by omega]
      have hk : k < s.size := hj
      have hkl : k < s.data.toList.length := by rw [len_eq]; exact hk
      have hfew : vs.length ≤ 2000000 := by
        have h1 := HS.out.len
        have h2 := txs_len ts
        have h3 := congrArg List.length HT.out
        have h4 := (vld_iff.1 HV.out).1
        rw [List.length_drop] at h3
        omega
      rcases vld_byte HV.out hkl with hc | hc
      · have hc' : s[k] = 48 := hc
        have HT1 : Hid (txs (Tr.nil :: ts) = s.data.toList.drop k) := Lib.hid (by rw [drop_cons hkl, hc, txs_cons, HT.out]; rfl)
        clear hc HT
        go_wp2_with (at_builtin; refine wpList_append_own _ rfl _ _ 91 rfl w.heap.size 36 i0 (.pointer none) 1 8 Tryz.underlying91 hi hz0 hz1 hz2 rfl (by decide) _ _ _ rfl (hown.alloc _) ⟨wr.heap.size, 0, none⟩ 1 1 [.pointer none] rfl rfl ?c1 ?c2 ?c3 ?c4 ?c5 ?_)
        case c1 =>
          intro t u ht
          match t, ht with
          | 0, ht => simp at ht; subst ht; simp [Addr.add]
        case c2 => intro u hu; simp at hu; subst hu; rfl
        case c3 => unfold maxLen; omega
        case c4 => omega
        case c5 => simp; omega
        intro v' w1 hown' hgrow _
        have hb1 := app_below hbw hsz hown hgrow
        have hk1 := (KeepT.alloc 42 wr _).trans (app_keep (hown.alloc _) hgrow (by decide))
        have HS1 : Hid (Stk (CellsAt 42 w1) (Tr.nil :: ts) (.pointer none :: vs)) := Lib.hid ⟨rfl, HS.out.keep hk1⟩
        have HO : Hid (w1.ownsRow w.heap.size 36 1 v' (Value.pointer none :: vs).length (Value.pointer none :: vs).reverse) := Lib.hid (by rw [List.reverse_cons, List.length_cons]; exact hown')
        clear hown' hgrow hown hbw HS hk1
        go_wp2
        go_roundw
        case rel => exact ⟨k, _, _, by omega, rfl, HT1, HS1, HO.out, hb1⟩
        case measure => simp [intOf]
      · have hc' : s[k] = 49 := hc
        obtain ⟨a, b, r, rfl⟩ := two_of HV.out hkl hc HT.out
        obtain ⟨x, y, u, rfl, hx, hy, hu⟩ := HS.out.two
        have HT1 : Hid (txs (Tr.pair a b :: r) = s.data.toList.drop k) := Lib.hid (by rw [drop_cons hkl, hc, ← HT.out, txs_cons, txs_cons, txs_cons]; simp [tx])
        have hle : (tx a).length ≤ 2000000 ∧ (tx b).length ≤ 2000000 := by
          have h3 := congrArg List.length HT.out
          have h4 := (vld_iff.1 HV.out).1
          rw [List.length_drop, txs_cons, txs_cons, List.length_append, List.length_append] at h3
          omega
        clear hc HT HS
        obtain ⟨g, cap, rfl, _, hcap, hg0, hg, cell1, own1⟩ := own_top hown (rev_two x y u)
        obtain ⟨g2, cap2, hg2, _, hcap2, _, _, cell2, own2⟩ := own_top own1 rfl
        injection hg2 with e1 e2 e3
        injection e1 with e1
        injection e1 with e1
        subst e1; subst e3
        simp only [List.length_append, List.length_reverse, List.length_cons, List.length_nil] at cell1 cell2 hcap hfew own2 ⊢
        clear own1 hown hcap2 e2
        obtain ⟨X, rfl⟩ := hx.one
        obtain ⟨Y, rfl⟩ := hy.one
        have HC := Lib.hid (fun W (h1 : NodeW 42 W a (.pointer X)) (h2 : NodeW 42 W b (.pointer Y)) => rCons_any W a b _ _ h1 h2 hle.1 hle.2)
        have HX := Lib.hid hx; have HY := Lib.hid hy; have HU := Lib.hid hu; clear hx hy hu hle
        generalize hqn : u.length = qn at *
        have HQ := Lib.hid hqn; clear hqn
        obtain ⟨n, hn⟩ : ∃ n, qn + 1 + 1 = n := ⟨_, rfl⟩
        simp only [Nat.zero_add] at cell1 cell2 hcap own2 ⊢
        rw [hn] at hcap hfew ⊢
        rw [show qn + 1 = n - 1 from by omega] at cell1
        rw [show qn = n - 2 from by omega] at cell2
        have m0 : 2 ≤ n := by omega
        have m5 : (1 : Int) ≤ (n : Int) := by omega
        have m6 : (2 : Int) ≤ (n : Int) := by omega
        have m1 : (0 : Int) ≤ (n : Int) - 1 := by omega
        have m2 : (n : Int) - 1 < (n : Int) := by omega
        have m3 : (0 : Int) ≤ (n : Int) - 2 := by omega
        have m4 : (n : Int) - 2 < (n : Int) := by omega
        have s1 : ((n : Int) - 1).toNat = n - 1 := by omega
        have s2 : ((n : Int) - 2).toNat = n - 2 := by omega
        have wr1 : IntKind.i64.wrap ((n : Int) - 1) = (n : Int) - 1 := IntWalk.i64_in _ (by omega)
        have wr2 : IntKind.i64.wrap ((n : Int) - 2) = (n : Int) - 2 := IntWalk.i64_in _ (by omega)
        rw [show qn = n - 2 from by omega] at own2 HQ
        have OWN := Lib.hid own2
        clear hn own2
        go_wp2_with fail
        go_still_tail 12, (by kernel_rfl)
        go_wp2_with fail
        refine (HC.out _ (NodeW.keep HX.out (KeepT.drewN _ wr 1)) (NodeW.keep HY.out (KeepT.drewN _ wr 1))).mono ?_
        rintro e w2 ⟨v2, rfl, hv2, hb2⟩
        have hb2' : Below w.heap.size w w2 := hbw.drew.trans (hb2.mono hsz)
        have OWN2 := Lib.hid (own_below OWN.out.drew hb2)
        have HU2 := Lib.hid (HU.out.keep ((KeepT.drewN _ wr 1).trans (KeepT.below hb2)))
        have hsz2 := hb2'.size
        obtain ⟨Z, rfl⟩ := hv2.one
        have HV2 := Lib.hid hv2
        clear hv2 hb2 OWN HU HX HY HC cell1 cell2 hbw
        go_wp2_with (at_builtin; refine wpList_append_own _ rfl _ _ 91 rfl w.heap.size 36 i0 (.pointer none) 1 8 Tryz.underlying91 hi hz0 hz1 hz2 rfl (by decide) _ _ _ rfl (OWN2.out.alloc _) ⟨w2.heap.size, 0, none⟩ 1 1 [.pointer Z] rfl rfl ?d1 ?d2 ?d3 ?d4 ?d5 ?_)
        case d1 =>
          intro t u ht
          match t, ht with
          | 0, ht => simp at ht; subst ht; simp [Addr.add]
        case d2 => intro u hu; simp at hu; subst hu; rfl
        case d3 => unfold maxLen; omega
        case d4 => omega
        case d5 => simp; omega
        intro v' w1 hown' hgrow _
        have hb1 := app_below hb2' hsz2 OWN2.out hgrow
        have hk1 := (KeepT.alloc 42 w2 _).trans (app_keep (OWN2.out.alloc _) hgrow (by decide))
        have HS1 : Hid (Stk (CellsAt 42 w1) (Tr.pair a b :: r) (.pointer Z :: u)) := Lib.hid ⟨NodeW.keep HV2.out hk1, HU2.out.keep hk1⟩
        have HO : Hid (w1.ownsRow w.heap.size 36 1 v' (Value.pointer Z :: u).length (Value.pointer Z :: u).reverse) := Lib.hid (by rw [List.reverse_cons, List.length_cons, HQ.out]; exact hown')
        clear hown' hgrow OWN2 hb2' hk1
        go_wp2
        go_roundw
        case rel => exact ⟨k, _, _, by omega, rfl, HT1, HS1, HO.out, hb1⟩
        case measure => simp [intOf]
end Go.Proofs.YtmhoacnbmbhcjaaGreatDoor

namespace Go.Proofs.YtmhoacnbmbhcjaaGreatDoor
open Go.RowKit Pl

def sliceLen : Value → Nat | .slice _ n _ => n | _ => 0
theorem own_len {w : World} {base n : Nat} {e : TypeId} {size : Nat} {v : Value} {xs : List Value} (h : w.ownsRow base e size v n xs) : sliceLen v = n := by
  rcases h.2 with ⟨rfl, h2⟩ | ⟨g, cap, cur, rfl, _⟩
  · exact h2.symm
  · rfl
theorem own_zero {w : World} {base : Nat} {e : TypeId} {size : Nat} {v : Value} {xs : List Value} (h : w.ownsRow base e size v 0 xs) : ∃ a c, v = .slice a 0 c := by
  rcases h.2 with ⟨rfl, _⟩ | ⟨g, cap, cur, rfl, _⟩
  · exact ⟨_, _, rfl⟩
  · exact ⟨_, _, rfl⟩
theorem CellsAt.keep {τ : TypeId} {w w' : World} {b o : Nat} {x : Value} (h : CellsAt τ w b o x) (hk : KeepT τ w w') : CellsAt τ w' b o x :=
  ⟨h.1.keep hk, by rw [← h.2]; exact World.cell?_of_block (w := w) (a := ⟨b, o, none⟩) (hk.block b h.1)⟩
theorem far2 {w1 w2 : World} {ob : Obj} {row : Option Nat} {B o : Nat} {x : Value} (hg : ((w1.alloc ob).drew).grownBy w2 row) (hne : some B ≠ row) (h : w1.cell? ⟨B, o, none⟩ = some x) : w2.cell? ⟨B, o, none⟩ = some x :=
  hg.cell (a := ⟨B, o, none⟩) (cell_keep (w := w1) ((Below.refl _ _).alloc (Nat.le_refl _) ob).drew h) hne
theorem own_one (w : World) (base : Nat) (e : TypeId) (v : Value) (hb : base ≤ w.heap.size) : (w.alloc (.cells #[v] e)).ownsRow base e 1 (.slice (some ⟨w.heap.size, 0, none⟩) 1 1) 1 [v] :=
  ⟨rfl, .inr ⟨_, 1, #[v], rfl, hb, heap_alloc_new w _, Nat.le_refl _, by decide, rfl, rfl⟩⟩

set_option maxHeartbeats 3200000 in
set_option maxRecDepth 100000 in
theorem rText_any (t : Tr) (v : Value) (w : World) (hn : NodeW 42 w t v) (hl : (tx t).length ≤ 2000000) :
    Calls Tryz.prog 38 #[v] w fun e w' => e = .returned (.string (S (tx t))) ∧ Below w.heap.size w w' := by
  obtain ⟨i0, hi, hz0, hz1, hz2⟩ := info_parts Tryz.infoRNode
  obtain ⟨j0, hj, hy0, hy1, hy2⟩ := info_parts Tryz.infoByte
  have HSZ := Lib.hid (fun W h => rSize_any 42 W t v h)
  have HN := Lib.hid hn
  obtain ⟨V, rfl⟩ := hn.one
  clear hn
  obtain ⟨m, hm⟩ : ∃ m, m = (tx t).length := ⟨_, rfl⟩
  rw [← hm] at hl HSZ
  have HM := Lib.hid hm; clear hm
  go_enter Tryz.func38, Tryz.ntmps38
  go_wp2_with fail
  refine (HSZ.out _ HN.out).mono ?_
  rintro e w' ⟨rfl, rfl⟩
  go_wp2_with (at_make; refine wpList_make_own _ rfl _ _ 105 rfl w.heap.size 5 j0 (.int .u8 0) 1 Tryz.underlying105 hj hy0 hy1 _ _ _ m rfl rfl (by omega) ?b2 ?b3 (Nat.le_refl _) ?_)
  case b2 => rw [hy2]; omega
  case b3 => unfold maxLen; omega
  intro w0 hown0 hgrow0
  have hb0 : Below w.heap.size w w0 := (Below.refl _ _).grown hgrow0 (Nat.le_refl _) (fun k h => by cases h)
  have HN0 := Lib.hid (NodeW.below HN.out hb0)
  have hsz0 := hb0.size
  have HO0 := Lib.hid (hown0.alloc (.cells #[.pointer V] 36))
  have HL0 := Lib.hid (own_one w0 w.heap.size 36 (.pointer V) hsz0)
  have HB0 := Lib.hid (hb0.alloc hsz0 (.cells #[.pointer V] 36))
  have HS0 := Lib.hid (NodeW.keep HN0.out (KeepT.alloc _ w0 (.cells #[.pointer V] 36)))
  clear hown0 hgrow0 hb0 HN0 HN HSZ
  go_wp2
  go_loopw [3, 4] (fun out l wr => ∃ (pre : List UInt8) (ts : List Tr) (vs : List Value), wr.ownsRow w.heap.size 5 1 out pre.length (Lib.byteCells pre) ∧ Hid (pre ++ txs ts = tx t) ∧ Hid (Stk (CellsAt 42 wr) ts vs) ∧ wr.ownsRow w.heap.size 36 1 l vs.length vs.reverse ∧ Below w.heap.size w wr) (fun out _ _ => m - sliceLen out)
  case atStart => exact ⟨[], [t], [.pointer V], HO0.out, Lib.hid (by simp [txs]), Lib.hid ⟨HS0.out, trivial⟩, HL0.out, HB0.out⟩
  case round =>
    clear HO0 HL0 HB0 HS0 hsz0
    obtain ⟨pre, ts, vs, hown, HT, HS, hst, hbw⟩ := hrel
    have hsz := hbw.size
    have HLEN := Lib.hid (own_len hown)
    have hlen : pre.length + (txs ts).length = m := by rw [HM.out, ← HT.out, List.length_append]
    have hvl : vs.length ≤ 2000000 := by have h1 := HS.out.len; have h2 := txs_len ts; omega
    cases ts with
    | nil =>
      obtain rfl : vs = [] := List.length_eq_zero_iff.1 HS.out.len
      have ho1 : wr.ownsRow w.heap.size 5 1 u3 (tx t).length (Lib.byteCells (tx t)) := by
        have h1 := HT.out
        rw [txs_nil, List.append_nil] at h1
        rw [← h1]; exact hown
      obtain ⟨g, cap, rfl, hn, hcell⟩ := own_bytes ho1 (tx_pos t)
      have hcv := run_convert_bytes_back (P := Tryz.prog) wr 105 9 5 ⟨g, 0, none⟩ cap (tx t) Tryz.underlying105 Tryz.underlying5 Tryz.underlying9 hcell
      obtain ⟨sa, sc, rfl⟩ := own_zero hst
      generalize hL : tx t = l at *
      have HN := Lib.hid hn; have HL := Lib.hid hL; clear hn hL ho1 hcell hst HLEN hown
      go_wp2
      go_ret
      exact ⟨ret_str (by rw [HL.out]), hbw⟩
    | cons t1 ts =>
      obtain ⟨x, u, rfl, hx, hu⟩ := HS.out.up
      clear HS
      obtain ⟨g, cap, rfl, _, hcap, hg0, hg, cell1, own1⟩ := own_top (ys := u.reverse) (x := x) hst (by rw [List.reverse_cons])
      rw [List.length_reverse] at hcap cell1 own1 ⊢
      rw [List.length_cons] at hvl
      have OWN := Lib.hid own1
      clear own1 hst
      generalize hqn : u.length = q at *
      have HQ := Lib.hid hqn; clear hqn
      have hq1 : (0 : Int) < (q : Int) + 1 := by omega
      cases t1 with
      | nil =>
        obtain rfl : x = .pointer none := hx
        have HT1 : Hid ((pre ++ [48]) ++ txs ts = tx t) := Lib.hid (by rw [← HT.out, txs_cons]; simp [tx])
        have hpre : pre.length + 1 ≤ m := by rw [txs_cons, List.length_append] at hlen; simp [tx] at hlen; omega
        clear HT hlen
        go_wp2_with (at_builtin; refine wpList_append_own _ rfl _ _ 105 rfl w.heap.size 5 j0 (.int .u8 0) 1 1 Tryz.underlying105 hj hy0 hy1 hy2 rfl (by decide) _ _ _ rfl (hown.alloc _) ⟨wr.heap.size, 0, none⟩ 1 1 [.int .u8 48] rfl rfl ?c1 ?c2 ?c3 ?c4 ?c5 ?_)
        case c1 =>
          intro t u ht
          match t, ht with
          | 0, ht => simp at ht; subst ht; simp [Addr.add]
        case c2 => intro u hu; simp at hu; subst hu; rfl
        case c3 => unfold maxLen; omega
        case c4 => omega
        case c5 => simp; omega
        intro v' w1 hown' hgrow _
        have hb1 := app_below hbw hsz hown hgrow
        have hk1 := (KeepT.alloc 42 wr _).trans (app_keep (hown.alloc _) hgrow (by decide))
        have HS1 : Hid (Stk (CellsAt 42 w1) ts u) := Lib.hid (hu.keep hk1)
        have HO1 : Hid (w1.ownsRow w.heap.size 5 1 v' (pre ++ [48]).length (Lib.byteCells (pre ++ [48]))) := Lib.hid (by rw [Lib.byteCells_append, List.length_append]; exact hown')
        have HW1 : Hid (w1.ownsRow w.heap.size 36 1 (.slice (some ⟨g, 0, none⟩) q cap) u.length u.reverse) := Lib.hid (by rw [HQ.out]; exact (OWN.out.alloc _).kept hgrow (own_apart OWN.out hown (by decide)))
        have HLV := Lib.hid (own_len hown')
        clear hown' hgrow hown hbw hk1 OWN hu
        go_wp2
        go_roundw
        case rel => exact ⟨_, _, _, HO1.out, HT1, HS1, HW1.out, hb1⟩
        case measure => rw [HLV.out, HLEN.out]; omega
      | pair a b =>
        obtain ⟨B, o, xa, xb, rfl, ca, cb, _, na, nb⟩ := hx
        obtain ⟨Xa, rfl⟩ := na.one
        obtain ⟨Xb, rfl⟩ := nb.one
        have HT1 : Hid ((pre ++ [49]) ++ txs (a :: b :: ts) = tx t) := Lib.hid (by rw [← HT.out, txs_cons, txs_cons, txs_cons]; simp [tx])
        have hpre : pre.length + 1 ≤ m ∧ q + 2 ≤ 2000000 := by
          have h1 := HT1.out
          have h2 := congrArg List.length h1
          rw [List.length_append, List.length_append, ← HM.out, txs_cons, txs_cons, List.length_append, List.length_append] at h2
          have h3 := txs_len ts
          have h4 := hu.len
          have h5 := HQ.out
          have := tx_pos a
          have := tx_pos b
          simp only [List.length_cons, List.length_nil] at h2
          omega
        obtain ⟨hpre, hq2⟩ := hpre
        have hBg : B ≠ g := fun e => by subst e; exact (own_tag OWN.out rfl).ne (by decide) ca.1
        have CA := Lib.hid ca; have CB := Lib.hid cb; have NA := Lib.hid na; have NB := Lib.hid nb; have HU := Lib.hid hu
        clear ca cb na nb HT hlen hu
        go_wp2_with (at_builtin; refine wpList_append_own _ rfl _ _ 105 rfl w.heap.size 5 j0 (.int .u8 0) 1 1 Tryz.underlying105 hj hy0 hy1 hy2 rfl (by decide) _ _ _ rfl (hown.alloc _) ⟨wr.heap.size, 0, none⟩ 1 1 [.int .u8 49] rfl rfl ?c1 ?c2 ?c3 ?c4 ?c5 ?_)
        case c1 =>
          intro t u ht
          match t, ht with
          | 0, ht => simp at ht; subst ht; simp [Addr.add]
        case c2 => intro u hu; simp at hu; subst hu; rfl
        case c3 => unfold maxLen; omega
        case c4 => omega
        case c5 => simp; omega
        intro v' w1 hown' hgrow _
        have hb1 := app_below hbw hsz hown hgrow
        have hsz1 := hb1.size
        have hk1 := (KeepT.alloc 42 wr _).trans (app_keep (hown.alloc _) hgrow (by decide))
        have HU1 := Lib.hid (HU.out.keep hk1)
        have NA1 := Lib.hid (NodeW.keep NA.out hk1)
        have NB1 := Lib.hid (NodeW.keep NB.out hk1)
        have ka := (CA.out.keep hk1).2
        have kb := (CB.out.keep hk1).2
        have HO1 : Hid (w1.ownsRow w.heap.size 5 1 v' (pre ++ [49]).length (Lib.byteCells (pre ++ [49]))) := Lib.hid (by rw [Lib.byteCells_append, List.length_append]; exact hown')
        have HW1 : Hid (w1.ownsRow w.heap.size 36 1 (.slice (some ⟨g, 0, none⟩) q cap) q u.reverse) := Lib.hid ((OWN.out.alloc _).kept hgrow (own_apart OWN.out hown (by decide)))
        have HLV := Lib.hid (own_len hown')
        clear hown' hgrow hown hbw hk1 OWN HU NA NB CA CB cell1
        have hB1 : B < w1.heap.size := World.block_lt_of_cell? w1 _ ka
        go_wp2_with fail
        go_region_held3 (fun w' => w'.cell? ⟨B, o + 1, none⟩ = some (.pointer Xb) ∧ w'.cell? ⟨B, o, none⟩ = some (.pointer Xa)) (first | exact ⟨e1, e2⟩ | go_keep)
          (first
            | (refine step_append_lies _ (by rfl) _ _ _ (by rfl) w.heap.size 36 i0 _ 1 8 Tryz.underlying91 hi hz0 hz1 hz2 rfl (by omega) _ _ _ (by rfl) ((HW1.out.alloc _).drew) ⟨w1.heap.size, 0, none⟩ 2 2 [.pointer Xb, .pointer Xa] (by rfl) (by rfl) (World.news_of_block (cs := #[.pointer Xb, .pointer Xa]) (t := 36) (fr := (0, 0)) (heap_alloc_new w1 _)) (by simp [Value.oneCell']) (by omega) (by unfold maxLen; omega) (by omega) (by simp; omega) (w1.heap.size + 1) (by simp) ?_; intro gg cap1 w2 hown2 hgrow2 hat hlt1; have e1 := far2 hgrow2 (by intro e; exact hBg (Option.some.inj e)) kb; have e2 := far2 hgrow2 (by intro e; exact hBg (Option.some.inj e)) ka))
        have hb2 : Below w.heap.size w w2 := (hb1.alloc hsz1 _).drew.grown hgrow2 (by simp; omega) (fun k h => (HW1.out.lt k h).1)
        have hk2 := ((KeepT.alloc 42 w1 (.cells #[.pointer Xb, .pointer Xa] 36)).trans (KeepT.drewN _ _ 1)).trans (app_keep (HW1.out.alloc _).drew hgrow2 (by decide))
        have HS2 : Hid (Stk (CellsAt 42 w2) (a :: b :: ts) (.pointer Xa :: .pointer Xb :: u)) := Lib.hid ⟨NodeW.keep NA1.out hk2, NodeW.keep NB1.out hk2, HU1.out.keep hk2⟩
        have HO2 : Hid (w2.ownsRow w.heap.size 5 1 v' (pre ++ [49]).length (Lib.byteCells (pre ++ [49]))) := Lib.hid ((HO1.out.alloc _).drew.kept hgrow2 (own_apart HO1.out HW1.out (by decide)))
        have HW2 : Hid (w2.ownsRow w.heap.size 36 1 (.slice (some ⟨gg, 0, none⟩) (q + 2) cap1) (Value.pointer Xa :: Value.pointer Xb :: u).length (Value.pointer Xa :: Value.pointer Xb :: u).reverse) := Lib.hid (by rw [rev_two, List.append_assoc, List.length_cons, List.length_cons, HQ.out]; exact hown2)
        clear hown2 hgrow2 hk2 HO1 HW1 HU1 NA1 NB1 hb1 ka kb hat hlt1 e1 e2
        go_wp2
        go_roundw
        case rel => exact ⟨_, _, _, HO2.out, HT1, HS2, HW2.out, hb2⟩
        case measure => rw [HLV.out, HLEN.out]; omega
end Go.Proofs.YtmhoacnbmbhcjaaGreatDoor

namespace Go.Proofs.YtmhoacnbmbhcjaaGreatDoor
open Go.RowKit Pl

theorem own_keepT {w w' : World} {base n : Nat} {e : TypeId} {size : Nat} {v : Value} {xs : List Value} (h : w.ownsRow base e size v n xs) (hk : KeepT e w w') : w'.ownsRow base e size v n xs := by
  refine ⟨h.1, ?_⟩
  rcases h.2 with h0 | ⟨g, cap, cur, hv, hb, hg, rest⟩
  · exact .inl h0
  · exact .inr ⟨g, cap, cur, hv, hb, by rw [hk.block g ⟨cur, (), hg⟩, hg], rest⟩
theorem Tryz.infoBld : (Tryz.prog.info? 131).map (fun i => i.size) = some 2 := by kernel_rfl
/-- all blocks but those of builders and of bytes are as they were -/
def KeepB (w w' : World) : Prop := ∀ τ : TypeId, τ ≠ 131 → τ ≠ 5 → KeepT τ w w'
theorem KeepB.trans {a b c : World} (h : KeepB a b) (k : KeepB b c) : KeepB a c := fun τ h1 h2 => (h τ h1 h2).trans (k τ h1 h2)
set_option maxHeartbeats 400000 in
set_option maxRecDepth 100000 in
theorem copyCheck_used (b : Nat) (w : World) (h : w.cell? ⟨b, 0, none⟩ = some (.pointer (some ⟨b, 0, none⟩))) :
    Calls Tryz.prog 159 #[.pointer (some ⟨b, 0, none⟩)] w fun e w' => e = .returned (.tuple #[]) ∧ w = w' := by
  obtain ⟨j, hj, _⟩ := Option.map_eq_some_iff.1 Tryz.infoBld
  go_enter Tryz.func159, Tryz.ntmps159
  go_wp2
  rw [Lib.run_neq_ptr_same w _ Tryz.underlying129 hj]
  go_wp2
  go_end0
  exact ⟨rfl, rfl⟩

abbrev BAt (B b : Nat) (l : List UInt8) (w : World) : Prop := Lib.BuilderAt 131 5 B b (.pointer (some ⟨b, 0, none⟩)) (Lib.byteCells l) w
set_option maxHeartbeats 1600000 in
set_option maxRecDepth 100000 in
theorem WriteByte_own (B b : Nat) (l : List UInt8) (c : UInt8) (w : World) (h : BAt B b l w) (hlen : l.length + 1 ≤ 140737488355328) (hBw : B ≤ w.heap.size) :
    Calls Tryz.prog 111 #[.pointer (some ⟨b, 0, none⟩), .int .u8 (c.toNat : Int)] w fun e w' => e = .returned .nilIface ∧ BAt B b (l ++ [c]) w' ∧ Below B w w' ∧ KeepB w w' := by
  obtain ⟨i0, hi, hz0, hz1, hz2⟩ := info_parts Tryz.infoByte
  obtain ⟨hB, v, hbk, hown, hne⟩ := h
  have c0 : w.cell? ⟨b, 0, none⟩ = some (.pointer (some ⟨b, 0, none⟩)) := by rw [Lib.cell_of_heap hbk]; rfl
  have c1 : w.cell? ⟨b, 1, none⟩ = some v := by rw [Lib.cell_of_heap hbk]; rfl
  have HC := Lib.hid (copyCheck_used b w c0)
  rw [Lib.byteCells_length] at hown
  obtain ⟨n, hn⟩ : ∃ n, n = l.length := ⟨_, rfl⟩
  rw [← hn] at hown hlen
  have HN := Lib.hid hn; have HBK := Lib.hid hbk; have HNE := Lib.hid hne
  clear hn hbk hne
  go_enter Tryz.func111, Tryz.ntmps111
  go_wp2_with fail
  refine HC.out.mono ?_
  rintro e w1 ⟨rfl, rfl⟩
  go_wp2_with (at_builtin; refine wpList_append_own _ rfl _ _ 105 rfl B 5 i0 (.int .u8 0) 1 1 Tryz.underlying105 hi hz0 hz1 hz2 rfl (by decide) _ _ _ rfl (hown.alloc _) ⟨w.heap.size, 0, none⟩ 1 1 [.int .u8 (c.toNat : Int)] rfl rfl ?c1 ?c2 ?c3 ?c4 ?c5 ?_)
  case c1 =>
    intro j u hj
    match j, hj with
    | 0, hj => simp at hj; subst hj; simp [Addr.add]
  case c2 => intro u hu; simp at hu; subst hu; rfl
  case c3 => unfold maxLen; omega
  case c4 => omega
  case c5 => simp; omega
  intro v' w2 hown' hgrow _
  have hlt : b < w.heap.size := (Array.getElem?_eq_some_iff.1 HBK.out).1
  have hb2 : w2.heap[b]? = some (.cells #[.pointer (some ⟨b, 0, none⟩), v] 131 (0, 0)) := by
    rw [hgrow.block b (by simp; omega) (fun e => HNE.out e.symm), Lib.alloc_old w _ b hlt]
    exact HBK.out
  have d0 : w2.cell? ⟨b, 0, none⟩ = some (.pointer (some ⟨b, 0, none⟩)) := by rw [Lib.cell_of_heap hb2]; rfl
  have d1 : w2.cell? ⟨b, 1, none⟩ = some v := by rw [Lib.cell_of_heap hb2]; rfl
  have f1 : w2.frozen? ⟨b, 1, none⟩ = false := Lib.frozen_of_heap hb2 1
  have HK : Hid (KeepB w (w2.setCell ⟨b, 1, none⟩ v')) := Lib.hid (fun τ h1 h2 => ((KeepT.alloc τ w _).trans (app_keep (hown.alloc _) hgrow (Ne.symm h2))).trans (KeepT.setCell (TagB.ne ⟨_, (), hb2⟩ (Ne.symm h1)) _))
  have HB2 := Lib.hid (((((Below.refl B w).alloc hBw _).grown hgrow (by simp; omega) (fun k hk => (hown.lt k hk).1))).setCell (p := ⟨b, 1, none⟩) hB v')
  have HO2 := Lib.hid hown'
  have HH := Lib.hid hb2
  obtain ⟨g, cap, rfl⟩ : ∃ g cap, v' = .slice (some ⟨g, 0, none⟩) (n + 1) cap := by
    rcases hown'.2 with ⟨_, h0⟩ | ⟨g, cap, cur, hv, _⟩
    · omega
    · exact ⟨g, cap, hv⟩
  clear hown' hgrow hb2 c0 c1
  go_wp2
  go_ret
  refine ⟨rfl, ?_, HB2.out, HK.out⟩
  exact Lib.BuilderAt.put (T := 131) (e := 5) hB HH.out (bs' := Lib.byteCells (l ++ [c])) (by have h9 := HO2.out; rw [Lib.byteCells_length, List.length_append, ← HN.out, Lib.byteCells_append]; exact h9) (by decide)
set_option maxHeartbeats 1600000 in
set_option maxRecDepth 100000 in
theorem WriteString_own (B b : Nat) (l s : List UInt8) (w : World) (h : BAt B b l w) (hlen : l.length + s.length ≤ 140737488355328) (hBw : B ≤ w.heap.size) :
    Calls Tryz.prog 112 #[.pointer (some ⟨b, 0, none⟩), .string (S s)] w fun e w' => e = .returned (.tuple #[.int .i64 s.length, .nilIface]) ∧ BAt B b (l ++ s) w' ∧ Below B w w' ∧ KeepB w w' := by
  obtain ⟨i0, hi, hz0, hz1, hz2⟩ := info_parts Tryz.infoByte
  obtain ⟨hB, v, hbk, hown, hne⟩ := h
  have c0 : w.cell? ⟨b, 0, none⟩ = some (.pointer (some ⟨b, 0, none⟩)) := by rw [Lib.cell_of_heap hbk]; rfl
  have c1 : w.cell? ⟨b, 1, none⟩ = some v := by rw [Lib.cell_of_heap hbk]; rfl
  have HC := Lib.hid (copyCheck_used b w c0)
  rw [Lib.byteCells_length] at hown
  obtain ⟨n, hn⟩ : ∃ n, n = l.length := ⟨_, rfl⟩
  rw [← hn] at hown hlen
  have hss : (S s).size = s.length := S_size s
  rw [← hss] at hlen ⊢
  have HSS := Lib.hid hss; clear hss
  have hst : Lib.strCells (S s) = Lib.byteCells s := rfl
  have HST := Lib.hid hst; clear hst
  generalize S s = σ at *
  have HN := Lib.hid hn; have HBK := Lib.hid hbk; have HNE := Lib.hid hne
  clear hn hbk hne
  go_enter Tryz.func112, Tryz.ntmps112
  go_wp2_with fail
  refine HC.out.mono ?_
  rintro e w1 ⟨rfl, rfl⟩
  go_wp2_with (at_builtin; refine Lib.wpList_append_own_string _ rfl _ _ 105 9 rfl B 5 i0 Tryz.underlying105 Tryz.underlying9 hi hz0 hz1 hz2 _ _ _ rfl hown σ rfl ?c3 ?c4 ?c5 ?_)
  case c3 => unfold maxLen; omega
  case c4 => omega
  case c5 => omega
  intro v' w2 hown' hgrow _
  have hlt : b < w.heap.size := (Array.getElem?_eq_some_iff.1 HBK.out).1
  have hb2 : w2.heap[b]? = some (.cells #[.pointer (some ⟨b, 0, none⟩), v] 131 (0, 0)) := by
    rw [hgrow.block b hlt (fun e => HNE.out e.symm)]
    exact HBK.out
  have d0 : w2.cell? ⟨b, 0, none⟩ = some (.pointer (some ⟨b, 0, none⟩)) := by rw [Lib.cell_of_heap hb2]; rfl
  have d1 : w2.cell? ⟨b, 1, none⟩ = some v := by rw [Lib.cell_of_heap hb2]; rfl
  have f1 : w2.frozen? ⟨b, 1, none⟩ = false := Lib.frozen_of_heap hb2 1
  have HK : Hid (KeepB w (w2.setCell ⟨b, 1, none⟩ v')) := Lib.hid (fun τ h1 h2 => (app_keep hown hgrow (Ne.symm h2)).trans (KeepT.setCell (TagB.ne ⟨_, (), hb2⟩ (Ne.symm h1)) _))
  have HB2 := Lib.hid ((((Below.refl B w).grown hgrow hBw (fun k hk => (hown.lt k hk).1))).setCell (p := ⟨b, 1, none⟩) hB v')
  have HO2 := Lib.hid hown'
  have HH := Lib.hid hb2
  obtain ⟨ao, n', cap, rfl⟩ : ∃ ao n' cap, v' = .slice ao n' cap := by
    rcases hown'.2 with ⟨hv, _⟩ | ⟨g, cap, cur, hv, _⟩
    · exact ⟨_, _, _, hv⟩
    · exact ⟨_, _, _, hv⟩
  clear hown' hgrow hb2 c0 c1
  go_wp2
  go_ret2
  refine ⟨rfl, ?_, HB2.out, HK.out⟩
  exact Lib.BuilderAt.put (T := 131) (e := 5) hB HH.out (bs' := Lib.byteCells (l ++ s)) (by have h9 := HO2.out; rw [Lib.byteCells_length, List.length_append, ← HN.out, ← HSS.out, Lib.byteCells_append, ← HST.out]; exact h9) (by decide)
/-- how many bytes a builder holds -/
def bldLen (b : Nat) (w : World) : Nat := sliceLen ((w.cell? ⟨b, 1, none⟩).getD .nilFunc)
theorem bldLen_of {B b : Nat} {l : List UInt8} {w : World} (h : BAt B b l w) : bldLen b w = l.length := by
  obtain ⟨hB, v, hbk, hown, hne⟩ := h
  have c1 : w.cell? ⟨b, 1, none⟩ = some v := by rw [Lib.cell_of_heap hbk]; rfl
  unfold bldLen
  rw [c1]
  show sliceLen v = _
  rw [own_len hown, Lib.byteCells_length]
theorem bat_keep {B b : Nat} {l : List UInt8} {w w' : World} (h : BAt B b l w) (h1 : KeepT 131 w w') (h2 : KeepT 5 w w') : BAt B b l w' := by
  obtain ⟨hB, v, hbk, hown, hne⟩ := h
  exact ⟨hB, v, by rw [h1.block b ⟨_, (), hbk⟩, hbk], own_keepT hown h2, hne⟩

set_option maxHeartbeats 3200000 in
set_option maxRecDepth 100000 in
theorem text_any (t : Tr) (v : Value) (w : World) (hn : NodeW 202 w t v) (hl : (tx t).length ≤ 2000000) :
    Calls Tryz.prog 141 #[v] w fun e w' => e = .returned (.string (S (tx t))) ∧ Below w.heap.size w w' := by
  obtain ⟨i0, hi, hz0, hz1, hz2⟩ := info_parts Tryz.infoNode
  have HSZ := Lib.hid (fun W h => size_any 202 W t v h)
  have HN := Lib.hid hn
  obtain ⟨V, rfl⟩ := hn.one
  clear hn
  obtain ⟨m, hm⟩ : ∃ m, m = (tx t).length := ⟨_, rfl⟩
  rw [← hm] at hl HSZ
  have HM := Lib.hid hm; clear hm
  obtain ⟨N, hNN⟩ : ∃ N, N = w.heap.size := ⟨_, rfl⟩
  have HNN := Lib.hid hNN
  go_enter Tryz.func141, Tryz.ntmps141
  go_wp2_with fail
  refine (HSZ.out _ (NodeW.keep HN.out (KeepT.alloc _ _ _))).mono ?_
  rintro e w' ⟨rfl, rfl⟩
  have HBK := Lib.hid (heap_alloc_new w (.cells #[.pointer none, .slice none 0 0] 131))
  go_wp2_with (go_at_call 151; refine (Tryz.Builder_Grow_fresh w.heap.size w.heap.size m _ (Nat.le_refl _) HBK.out (by simp) (by omega)).mono ?_; rintro e w0 ⟨rfl, hB0, hb0⟩)
  have hBA : BAt w.heap.size w.heap.size [] w0 := hB0
  have hbw0 : Below w.heap.size w w0 := ((Below.refl _ w).alloc (Nat.le_refl _) _).trans hb0
  have hsz0 := hbw0.size
  have hk0 : KeepT 131 w0 (w0.alloc (.cells #[.pointer V] 156)) := KeepT.alloc _ _ _
  have hk1 : KeepT 5 w0 (w0.alloc (.cells #[.pointer V] 156)) := KeepT.alloc _ _ _
  have HBA := Lib.hid (bat_keep hBA hk0 hk1)
  have HBW := Lib.hid (hbw0.alloc hsz0 (.cells #[.pointer V] 156))
  have HSS := Lib.hid (NodeW.below HN.out (hbw0.alloc hsz0 (.cells #[.pointer V] 156)))
  have HLL := Lib.hid (own_one w0 w.heap.size 156 (.pointer V) hsz0)
  clear hBA hbw0 hk0 hk1 hB0 hb0 HN HSZ HBK hsz0
  rw [← hNN] at HBA HBW HLL ⊢
  clear hNN
  go_loopw [4] (fun l wr => ∃ (pre : List UInt8) (ts : List Tr) (vs : List Value), Hid (BAt N N pre wr) ∧ Hid (pre ++ txs ts = tx t) ∧ Hid (Stk (CellsAt 202 wr) ts vs) ∧ wr.ownsRow N 156 1 l vs.length vs.reverse ∧ Below N w wr) (fun _ wr => m - bldLen N wr)
  case atStart => exact ⟨[], [t], [.pointer V], HBA, Lib.hid (by simp [txs]), Lib.hid ⟨HSS.out, trivial⟩, HLL.out, HBW.out⟩
  case round =>
    clear HBA HLL HBW HSS
    obtain ⟨pre, ts, vs, HBA, HT, HS, hst, hbw⟩ := hrel
    have hsz := hbw.size
    have hBw : N ≤ wr.heap.size := by have := HNN.out; omega
    have hlen : pre.length + (txs ts).length = m := by rw [HM.out, ← HT.out, List.length_append]
    have hvl : vs.length ≤ 2000000 := by have h1 := HS.out.len; have h2 := txs_len ts; omega
    cases ts with
    | nil =>
      obtain rfl : vs = [] := List.length_eq_zero_iff.1 HS.out.len
      obtain ⟨sa, sc, rfl⟩ := own_zero hst
      have hI : Lib.IsBuilder 131 5 N N (Lib.byteCells (tx t)) wr := by
        have h1 := HT.out
        rw [txs_nil, List.append_nil] at h1
        rw [← h1]; exact Or.inr HBA.out
      have HI := Lib.hid (Tryz.Builder_String_any N N (tx t) wr hI hBw)
      clear hI hst HBA HT HS hlen
      go_wp2_with fail
      refine HI.out.mono ?_
      rintro e w2 ⟨rfl, hb2⟩
      go_wp2_with fail
      go_ret
      exact ⟨rfl, by rw [← HNN.out]; exact hbw.trans hb2⟩
    | cons t1 ts =>
      obtain ⟨x, u, rfl, hx, hu⟩ := HS.out.up
      obtain ⟨g, cap, rfl, _, hcap, hg0, hg, cell1, own1⟩ := own_top (ys := u.reverse) (x := x) hst (by rw [List.reverse_cons])
      rw [List.length_reverse] at hcap cell1 own1 ⊢
      rw [List.length_cons] at hvl
      have OWN := Lib.hid own1
      have HX := Lib.hid hx; have HU := Lib.hid hu
      obtain ⟨X, rfl⟩ := hx.one
      have HBL := Lib.hid (bldLen_of HBA.out)
      clear own1 hst hx hu HS hlen
      generalize hqn : u.length = q at *
      have HQ := Lib.hid hqn; clear hqn
      have hq1 : (0 : Int) < (q : Int) + 1 := by omega
      obtain ⟨wo, rfl⟩ : ∃ wo : World, wo = wr := ⟨_, rfl⟩
      go_wp2_with fail
      go_loopw [4, 6] (fun l x W => ∃ (pre1 : List UInt8) (t2 : Tr) (ts : List Tr) (vs : List Value), Hid (pre.length ≤ pre1.length) ∧ Hid (BAt N N pre1 W) ∧ Hid (pre1 ++ txs (t2 :: ts) = tx t) ∧ Hid (NodeW 202 W t2 x) ∧ Hid (Stk (CellsAt 202 W) ts vs) ∧ W.ownsRow N 156 1 l vs.length vs.reverse ∧ Below N w W) (fun _ _ W => m - bldLen N W)
      case atStart => exact ⟨pre, t1, ts, u, Lib.hid (Nat.le_refl _), HBA, HT, HX, HU, by rw [HQ.out]; exact OWN.out, hbw⟩
      case round =>
        clear HBA HT HX HU OWN hbw HQ cell1 hcap hq1 hg0 hg hvl hsz hBw
        obtain ⟨pre1, t2, ts2, vs, HP, HBA, HT, HX, HS, hst, hbw⟩ := hrel
        have hBw : N ≤ wr.heap.size := by have := HNN.out; have := hbw.size; omega
        have HBL1 := Lib.hid (bldLen_of HBA.out)
        cases t2 with
        | nil =>
          have hx0 : u6 = .pointer none := HX.out
          subst hx0
          have hlen : pre1.length + 1 + (txs ts2).length = m := by
            have h1 := congrArg List.length HT.out
            rw [List.length_append, txs_cons, List.length_append, ← HM.out] at h1
            simp only [tx, List.length_cons, List.length_nil] at h1
            omega
          have HT1 : Hid ((pre1 ++ [48]) ++ txs ts2 = tx t) := Lib.hid (by rw [← HT.out, txs_cons]; simp [tx])
          have HW := Lib.hid (WriteString_own N N pre1 [48] wr HBA.out (by simp; omega) hBw)
          clear HX HT HBA
          go_wp2_with fail
          refine HW.out.mono ?_
          rintro e w2 ⟨rfl, h1, h2, h3⟩
          have HB2 := Lib.hid h1
          have HK := Lib.hid (h3 156 (by decide) (by decide))
          have HKN := Lib.hid (h3 202 (by decide) (by decide))
          have HBL2 := Lib.hid (bldLen_of h1)
          have hb2 := hbw.trans h2
          have HST := Lib.hid hst
          clear h1 h2 h3 hbw hst HW
          go_wp2_with fail
          go_roundw
          case rel => exact ⟨pre1 ++ [48], ts2, vs, HB2, HT1, Lib.hid (HS.out.keep HKN.out), own_keepT HST.out HK.out, hb2⟩
          case measure => rw [HBL2.out, HBL.out, List.length_append]; have := HP.out; simp; omega
        | pair a b =>
          obtain ⟨B, o, xa, xb, hx0, ca, cb, _, na, nb⟩ := HX.out
          subst hx0
          obtain ⟨Xa, rfl⟩ := na.one
          obtain ⟨Xb, rfl⟩ := nb.one
          have hlen : pre1.length + 1 + (tx a).length + (tx b).length + (txs ts2).length = m := by
            have h1 := congrArg List.length HT.out
            rw [List.length_append, txs_cons, List.length_append, ← HM.out, tx_pair] at h1
            omega
          have hq2 : vs.length + 1 ≤ 2000000 := by
            have h3 := txs_len ts2
            have h4 := HS.out.len
            have := tx_pos a
            omega
          have HT1 : Hid ((pre1 ++ [49]) ++ txs (a :: b :: ts2) = tx t) := Lib.hid (by rw [← HT.out, txs_cons, txs_cons, txs_cons]; simp [tx])
          have HW := Lib.hid (WriteByte_own N N pre1 49 wr HBA.out (by omega) hBw)
          have CA := Lib.hid ca; have CB := Lib.hid cb; have NA := Lib.hid na; have NB := Lib.hid nb
          have hlt : pre1.length < m := by omega
          clear HX HT HBA ca cb na nb hlen
          go_wp2_with fail
          refine HW.out.mono ?_
          rintro e w2 ⟨rfl, h1, h2, h3⟩
          have hkn := h3 202 (by decide) (by decide)
          have hst2 := own_keepT hst (h3 156 (by decide) (by decide))
          have HB2 := Lib.hid h1
          have hb2 := hbw.trans h2
          have hBw2 : N ≤ w2.heap.size := by have := h2.size; omega
          have CA2 := Lib.hid (CA.out.keep hkn)
          have NA2 := Lib.hid (NodeW.keep NA.out hkn)
          have NB2 := Lib.hid (NodeW.keep NB.out hkn)
          have HS2 := Lib.hid (HS.out.keep hkn)
          have kb := (CB.out.keep hkn).2
          clear h1 h2 h3 hkn hst hbw CA CB NA NB HS HW
          go_wp2_with (at_builtin; refine wpList_append_own _ rfl _ _ 157 rfl N 156 i0 (.pointer none) 1 8 Tryz.underlying157 hi hz0 hz1 hz2 rfl (by decide) _ _ _ rfl (hst2.alloc _) ⟨w2.heap.size, 0, none⟩ 1 1 [.pointer Xb] rfl rfl ?c1 ?c2 ?c3 ?c4 ?c5 ?_)
          case c1 =>
            intro t u ht
            match t, ht with
            | 0, ht => simp at ht; subst ht; simp [Addr.add]
          case c2 => intro u hu; simp at hu; subst hu; rfl
          case c3 => unfold maxLen; omega
          case c4 => omega
          case c5 => simp; omega
          intro v' w3 hown' hgrow _
          have hb3 : Below N w w3 := app_below hb2 hBw2 hst2 hgrow
          have hkn3 := (KeepT.alloc 202 w2 _).trans (app_keep (hst2.alloc _) hgrow (by decide))
          have hkb3 := (KeepT.alloc 131 w2 _).trans (app_keep (hst2.alloc _) hgrow (by decide))
          have hku3 := (KeepT.alloc 5 w2 _).trans (app_keep (hst2.alloc _) hgrow (by decide))
          have HB3 := Lib.hid (bat_keep HB2.out hkb3 hku3)
          have HBL3 := Lib.hid (bldLen_of HB3.out)
          have HX3 := Lib.hid (NodeW.keep NA2.out hkn3)
          have HS3 : Hid (Stk (CellsAt 202 w3) (b :: ts2) (.pointer Xb :: vs)) := Lib.hid ⟨NodeW.keep NB2.out hkn3, HS2.out.keep hkn3⟩
          have HO3 : Hid (w3.ownsRow N 156 1 v' (Value.pointer Xb :: vs).length (Value.pointer Xb :: vs).reverse) := Lib.hid (by rw [List.reverse_cons, List.length_cons]; exact hown')
          have ka := (CA2.out.keep hkn3).2
          clear hown' hgrow hst2 hb2 hkn3 hkb3 hku3 CA2 NA2 NB2 HS2 HB2 kb
          go_wp2_with fail
          go_roundw
          case rel => exact ⟨pre1 ++ [49], a, b :: ts2, _, Lib.hid (by have := HP.out; rw [List.length_append]; omega), HB3, HT1, HX3, HS3, HO3.out, hb3⟩
          case measure => rw [HBL3.out, HBL1.out, List.length_append]; simp; omega
end Go.Proofs.YtmhoacnbmbhcjaaGreatDoor

namespace Go.Proofs.YtmhoacnbmbhcjaaGreatDoor
open Go.RowKit Pl

/-- a register and the place have been written -/
def StepTo (w : World) (M a : Nat) (t : Tr) (k : Nat) (e : Ending) (w' : World) : Prop :=
  e = .returned (.bool true) ∧ ∃ w1 v, Below w.heap.size w w1 ∧ NodeW 202 w1 t v ∧ w' = (w1.setCell ⟨M, 3 + a, none⟩ v).setCell ⟨M, 2, none⟩ (.int .i64 (k : Int))
/-- the place has been written -/
def StepGo (w : World) (M : Nat) (k : Int) (e : Ending) (w' : World) : Prop :=
  e = .returned (.bool true) ∧ ∃ q, w' = (w.drewN q).setCell ⟨M, 2, none⟩ (.int .i64 k)
theorem quiet_add_left {P : Program} {f : FuncId} {args : Array Value} {w : World} {a n : Nat} {v : Value}
    (h : Calls P f args (w.drewN (a + n)) fun e w' => e = .returned v ∧ w.drewN (a + n) = w') :
    Calls P f args (w.drewN (a + n)) fun e w'' => e = .returned v ∧ ∃ m, w'' = w.drewN (a + m) :=
  h.mono fun _ _ ⟨he, hm⟩ => ⟨he, n, hm.symm⟩
theorem num_succ' (k : Nat) : (k : Int) + 1 = ((k + 1 : Nat) : Int) := by omega
theorem head_val {w : World} {t : Tr} {v : Value} (h : NodeW 202 w t v) : ∃ y, NodeW 202 w (hdT t) y ∧ ∀ q, Calls Tryz.prog 231 #[v] (w.drewN q) fun e w' => e = .returned y ∧ w' = w.drewN q := by
  cases t with
  | nil =>
    obtain rfl : v = .pointer none := h
    exact ⟨.pointer none, rfl, fun q => (head_any 202 (w.drewN q) .nil _ rfl).mono (by rintro e w' ⟨y, rfl, h1, h2⟩; exact ⟨by rw [show y = .pointer none from h1], h2.symm⟩)⟩
  | pair a b =>
    obtain ⟨B, o, x, y, rfl, h1, h2, h3, h4, h5⟩ := h
    refine ⟨x, h4, fun q => ?_⟩
    have c1 : (w.drewN q).cell? ⟨B, o, none⟩ = some x := h1.2
    go_enter Tryz.func231, Tryz.ntmps231
    go_wp2
    go_ret
    exact ⟨rfl, rfl⟩
theorem tail_val {w : World} {t : Tr} {v : Value} (h : NodeW 202 w t v) : ∃ y, NodeW 202 w (tlT t) y ∧ ∀ q, Calls Tryz.prog 232 #[v] (w.drewN q) fun e w' => e = .returned y ∧ w' = w.drewN q := by
  cases t with
  | nil =>
    obtain rfl : v = .pointer none := h
    exact ⟨.pointer none, rfl, fun q => (tail_any 202 (w.drewN q) .nil _ rfl).mono (by rintro e w' ⟨y, rfl, h1, h2⟩; exact ⟨by rw [show y = .pointer none from h1], h2.symm⟩)⟩
  | pair a b =>
    obtain ⟨B, o, x, y, rfl, h1, h2, h3, h4, h5⟩ := h
    refine ⟨y, h5, fun q => ?_⟩
    have c1 : (w.drewN q).cell? ⟨B, o + 1, none⟩ = some y := h2.2
    go_enter Tryz.func232, Tryz.ntmps232
    go_wp2
    go_ret
    exact ⟨rfl, rfl⟩
set_option maxHeartbeats 3200000 in
set_option maxRecDepth 100000 in
theorem step_set (w : World) (M C b off n cap k a : Nat) (t : Tr) (X : Option Addr) (old : Value) (hk : k < n) (hn : n ≤ 4000) (ha : a < 32)
    (m0 : w.cell? ⟨M, 0, none⟩ = some (.slice (some ⟨b, off, none⟩) n cap)) (m1 : w.cell? ⟨M, 1, none⟩ = some (.slice (some ⟨C, 0, none⟩) n n)) (m2 : w.cell? ⟨M, 2, none⟩ = some (.int .i64 k))
    (i0 : w.cell? ⟨b, off + k * 5, none⟩ = some (.int .i64 0)) (i1 : w.cell? ⟨b, off + k * 5 + 1, none⟩ = some (.int .i64 a))
    (ho : w.cell? ⟨M, 3 + a, none⟩ = some old) (f1 : w.frozen? ⟨M, 3 + a, none⟩ = false) (f2 : w.frozen? ⟨M, 2, none⟩ = false)
    (hc : w.cell? ⟨C, k, none⟩ = some (.pointer X)) (hN : NodeW 202 w t (.pointer X)) :
    Calls Tryz.prog 216 #[.pointer (some ⟨M, 0, none⟩)] w (StepTo w M a t (k + 1)) := by
  have k0 : (0 : Int) ≤ (k : Int) := by omega
  have k1 : (k : Int) < (n : Int) := by omega
  have a0 : (0 : Int) ≤ (a : Int) := by omega
  have a1 : (a : Int) < 32 := by omega
  have HN := Lib.hid hN; clear hN
  go_enter Tryz.func216, Tryz.ntmps216
  go_wp2
  go_quiet (fail)
  go_wp2_with fail
  refine wp_region_still_tail 18 (by kernel_rfl) (by kernel_rfl) ?_
  change wpStill _ _ (w.drewN nq).drew (fun a' => wpList _ _ _ _ a' (w.drewN nq).drew) _ _
  simp only [List.take_succ_cons, List.take_zero, List.drop_succ_cons, List.drop_zero]
  repeat still_step
  refine wpStill_nil ?_
  go_wp2
  go_ret
  exact ⟨rfl, _, _, (bdrewN (Below.refl _ _) (nq + 1)), NodeW.keep HN.out (KeepT.drewN _ _ _), by rw [num_succ']⟩
set_option maxHeartbeats 3200000 in
set_option maxRecDepth 100000 in
theorem step_move (w : World) (M C b off n cap k a : Nat) (t : Tr) (X : Option Addr) (old : Value) (hk : k < n) (hn : n ≤ 4000) (ha : a < 32)
    (m0 : w.cell? ⟨M, 0, none⟩ = some (.slice (some ⟨b, off, none⟩) n cap)) (_m1 : w.cell? ⟨M, 1, none⟩ = some (.slice (some ⟨C, 0, none⟩) n n)) (m2 : w.cell? ⟨M, 2, none⟩ = some (.int .i64 k))
    (i0 : w.cell? ⟨b, off + k * 5, none⟩ = some (.int .i64 1)) (i1 : w.cell? ⟨b, off + k * 5 + 1, none⟩ = some (.int .i64 a))
    (ho : w.cell? ⟨M, 3 + a, none⟩ = some old) (f1 : w.frozen? ⟨M, 3 + a, none⟩ = false) (f2 : w.frozen? ⟨M, 2, none⟩ = false)
    (B : Nat) (hB : B < 32) (i2 : w.cell? ⟨b, off + k * 5 + 2, none⟩ = some (.int .i64 B)) (hb : w.cell? ⟨M, 3 + B, none⟩ = some (.pointer X)) (hN : NodeW 202 w t (.pointer X)) :
    Calls Tryz.prog 216 #[.pointer (some ⟨M, 0, none⟩)] w (StepTo w M a t (k + 1)) := by
  have k0 : (0 : Int) ≤ (k : Int) := by omega
  have k1 : (k : Int) < (n : Int) := by omega
  have a0 : (0 : Int) ≤ (a : Int) := by omega
  have a1 : (a : Int) < 32 := by omega
  have b0 : (0 : Int) ≤ (B : Int) := by omega
  have b1 : (B : Int) < 32 := by omega
  have HN := Lib.hid hN; clear hN
  go_enter Tryz.func216, Tryz.ntmps216
  go_wp2
  go_quiet (fail)
  go_wp2_with fail
  refine wp_region_still_tail 17 (by kernel_rfl) (by kernel_rfl) ?_
  change wpStill _ _ (w.drewN nq).drew (fun a' => wpList _ _ _ _ a' (w.drewN nq).drew) _ _
  simp only [List.take_succ_cons, List.take_zero, List.drop_succ_cons, List.drop_zero]
  repeat still_step
  refine wpStill_nil ?_
  go_wp2
  go_ret
  exact ⟨rfl, _, _, (bdrewN (Below.refl _ _) (nq + 1)), NodeW.keep HN.out (KeepT.drewN _ _ _), by rw [num_succ']⟩
set_option maxHeartbeats 3200000 in
set_option maxRecDepth 100000 in
theorem step_head (w : World) (M C b off n cap k a : Nat) (t : Tr) (X : Option Addr) (old : Value) (hk : k < n) (hn : n ≤ 4000) (ha : a < 32)
    (m0 : w.cell? ⟨M, 0, none⟩ = some (.slice (some ⟨b, off, none⟩) n cap)) (_m1 : w.cell? ⟨M, 1, none⟩ = some (.slice (some ⟨C, 0, none⟩) n n)) (m2 : w.cell? ⟨M, 2, none⟩ = some (.int .i64 k))
    (i0 : w.cell? ⟨b, off + k * 5, none⟩ = some (.int .i64 3)) (i1 : w.cell? ⟨b, off + k * 5 + 1, none⟩ = some (.int .i64 a))
    (ho : w.cell? ⟨M, 3 + a, none⟩ = some old) (f1 : w.frozen? ⟨M, 3 + a, none⟩ = false) (f2 : w.frozen? ⟨M, 2, none⟩ = false)
    (B : Nat) (hB : B < 32) (i2 : w.cell? ⟨b, off + k * 5 + 2, none⟩ = some (.int .i64 B)) (hb : w.cell? ⟨M, 3 + B, none⟩ = some (.pointer X)) (hN : NodeW 202 w t (.pointer X)) :
    Calls Tryz.prog 216 #[.pointer (some ⟨M, 0, none⟩)] w (StepTo w M a (hdT t) (k + 1)) := by
  have k0 : (0 : Int) ≤ (k : Int) := by omega
  have k1 : (k : Int) < (n : Int) := by omega
  have a0 : (0 : Int) ≤ (a : Int) := by omega
  have a1 : (a : Int) < 32 := by omega
  have b0 : (0 : Int) ≤ (B : Int) := by omega
  have b1 : (B : Int) < 32 := by omega
  obtain ⟨y, hy, hcall⟩ := head_val hN
  obtain ⟨Y, rfl⟩ := hy.one
  have HY := Lib.hid hy; have HC := Lib.hid hcall; clear hy hcall hN
  go_enter Tryz.func216, Tryz.ntmps216
  go_wp2
  go_quiet (fail)
  go_wp2_with fail
  refine wp_region_still_tail 18 (by kernel_rfl) (by kernel_rfl) ?_
  change wpStill _ _ (w.drewN nq).drew (fun a' => wpList _ _ _ _ a' (w.drewN nq).drew) _ _
  simp only [List.take_succ_cons, List.take_zero, List.drop_succ_cons, List.drop_zero]
  repeat still_step
  still_call (HC.out _)
  repeat still_step
  refine wpStill_nil ?_
  go_wp2
  go_ret
  exact ⟨rfl, _, _, (bdrewN (Below.refl _ _) (nq + 1)), NodeW.keep HY.out (KeepT.drewN _ _ _), by rw [num_succ']⟩
set_option maxHeartbeats 3200000 in
set_option maxRecDepth 100000 in
theorem step_tail (w : World) (M C b off n cap k a : Nat) (t : Tr) (X : Option Addr) (old : Value) (hk : k < n) (hn : n ≤ 4000) (ha : a < 32)
    (m0 : w.cell? ⟨M, 0, none⟩ = some (.slice (some ⟨b, off, none⟩) n cap)) (_m1 : w.cell? ⟨M, 1, none⟩ = some (.slice (some ⟨C, 0, none⟩) n n)) (m2 : w.cell? ⟨M, 2, none⟩ = some (.int .i64 k))
    (i0 : w.cell? ⟨b, off + k * 5, none⟩ = some (.int .i64 4)) (i1 : w.cell? ⟨b, off + k * 5 + 1, none⟩ = some (.int .i64 a))
    (ho : w.cell? ⟨M, 3 + a, none⟩ = some old) (f1 : w.frozen? ⟨M, 3 + a, none⟩ = false) (f2 : w.frozen? ⟨M, 2, none⟩ = false)
    (B : Nat) (hB : B < 32) (i2 : w.cell? ⟨b, off + k * 5 + 2, none⟩ = some (.int .i64 B)) (hb : w.cell? ⟨M, 3 + B, none⟩ = some (.pointer X)) (hN : NodeW 202 w t (.pointer X)) :
    Calls Tryz.prog 216 #[.pointer (some ⟨M, 0, none⟩)] w (StepTo w M a (tlT t) (k + 1)) := by
  have k0 : (0 : Int) ≤ (k : Int) := by omega
  have k1 : (k : Int) < (n : Int) := by omega
  have a0 : (0 : Int) ≤ (a : Int) := by omega
  have a1 : (a : Int) < 32 := by omega
  have b0 : (0 : Int) ≤ (B : Int) := by omega
  have b1 : (B : Int) < 32 := by omega
  obtain ⟨y, hy, hcall⟩ := tail_val hN
  obtain ⟨Y, rfl⟩ := hy.one
  have HY := Lib.hid hy; have HC := Lib.hid hcall; clear hy hcall hN
  go_enter Tryz.func216, Tryz.ntmps216
  go_wp2
  go_quiet (fail)
  go_wp2_with fail
  refine wp_region_still_tail 18 (by kernel_rfl) (by kernel_rfl) ?_
  change wpStill _ _ (w.drewN nq).drew (fun a' => wpList _ _ _ _ a' (w.drewN nq).drew) _ _
  simp only [List.take_succ_cons, List.take_zero, List.drop_succ_cons, List.drop_zero]
  repeat still_step
  still_call (HC.out _)
  repeat still_step
  refine wpStill_nil ?_
  go_wp2
  go_ret
  exact ⟨rfl, _, _, (bdrewN (Below.refl _ _) (nq + 1)), NodeW.keep HY.out (KeepT.drewN _ _ _), by rw [num_succ']⟩
set_option maxHeartbeats 3200000 in
set_option maxRecDepth 100000 in
theorem step_cons (w : World) (M C b off n cap k a : Nat) (t u : Tr) (X Y : Option Addr) (old : Value) (hk : k < n) (hn : n ≤ 4000) (ha : a < 32)
    (m0 : w.cell? ⟨M, 0, none⟩ = some (.slice (some ⟨b, off, none⟩) n cap)) (_m1 : w.cell? ⟨M, 1, none⟩ = some (.slice (some ⟨C, 0, none⟩) n n)) (m2 : w.cell? ⟨M, 2, none⟩ = some (.int .i64 k))
    (i0 : w.cell? ⟨b, off + k * 5, none⟩ = some (.int .i64 2)) (i1 : w.cell? ⟨b, off + k * 5 + 1, none⟩ = some (.int .i64 a))
    (ho : w.cell? ⟨M, 3 + a, none⟩ = some old) (f1 : w.frozen? ⟨M, 3 + a, none⟩ = false) (f2 : w.frozen? ⟨M, 2, none⟩ = false)
    (B D : Nat) (hB : B < 32) (hD : D < 32) (i2 : w.cell? ⟨b, off + k * 5 + 2, none⟩ = some (.int .i64 B)) (i3 : w.cell? ⟨b, off + k * 5 + 3, none⟩ = some (.int .i64 D)) (hb : w.cell? ⟨M, 3 + B, none⟩ = some (.pointer X)) (hd : w.cell? ⟨M, 3 + D, none⟩ = some (.pointer Y)) (hN : NodeW 202 w t (.pointer X)) (hN2 : NodeW 202 w u (.pointer Y)) (hl : (tx (.pair t u)).length ≤ 2000000) :
    Calls Tryz.prog 216 #[.pointer (some ⟨M, 0, none⟩)] w (StepTo w M a (.pair t u) (k + 1)) := by
  have k0 : (0 : Int) ≤ (k : Int) := by omega
  have k1 : (k : Int) < (n : Int) := by omega
  have a0 : (0 : Int) ≤ (a : Int) := by omega
  have a1 : (a : Int) < 32 := by omega
  have b0 : (0 : Int) ≤ (B : Int) := by omega
  have b1 : (B : Int) < 32 := by omega
  have d0 : (0 : Int) ≤ (D : Int) := by omega
  have d1 : (D : Int) < 32 := by omega
  have HC := Lib.hid (fun W h1 h2 => cons_yes W t u (.pointer X) (.pointer Y) h1 h2 hl)
  have HN := Lib.hid hN; have HN2 := Lib.hid hN2; clear hN hN2 hl
  go_enter Tryz.func216, Tryz.ntmps216
  go_wp2
  go_quiet (fail)
  go_wp2_with fail
  go_region_held3 (fun w' => w'.cell? ⟨b, off + k * 5 + 2, none⟩ = some (.int .i64 B) ∧ w'.cell? ⟨b, off + k * 5 + 3, none⟩ = some (.int .i64 D) ∧ w'.cell? ⟨M, 3 + B, none⟩ = some (.pointer X) ∧ w'.cell? ⟨M, 3 + D, none⟩ = some (.pointer Y))
    (first | exact ⟨g1, g2, g3, g4⟩ | go_keep)
    (first | (go_simp; go_at_call 230; refine (HC.out _ (NodeW.keep HN.out (KeepT.drewN _ w _)) (NodeW.keep HN2.out (KeepT.drewN _ w _))).mono ?_; rintro e w2 ⟨v, rfl, hv, hb2⟩; have hbw := (bdrewN (Below.refl w.heap.size w) _).trans hb2; have g1 := cell_keep hbw i2; have g2 := cell_keep hbw i3; have g3 := cell_keep hbw hb; have g4 := cell_keep hbw hd))
  obtain ⟨V, rfl⟩ := hv.one
  have HV := Lib.hid hv
  have HB := Lib.hid hbw
  have M0 := Lib.hid (cell_keep HB.out m0); have M2 := Lib.hid (cell_keep HB.out m2); have I1 := Lib.hid (cell_keep HB.out i1); have O1 := Lib.hid (cell_keep HB.out ho)
  have F1 : Hid (w2.frozen? ⟨M, 3 + a, none⟩ = false) := Lib.hid ((HB.out.frozen (p := ⟨M, 3 + a, none⟩) (cell_lt ho)).trans f1)
  have F2 : Hid (w2.frozen? ⟨M, 2, none⟩ = false) := Lib.hid ((HB.out.frozen (p := ⟨M, 2, none⟩) (cell_lt m2)).trans f2)
  clear hv hb2 hbw g1 g2 g3 g4 m0 m2 i0 i1 i2 i3 ho f1 f2 hb hd HC HN HN2
  have m0 := M0.out; have m2 := M2.out; have i1 := I1.out; have ho := O1.out; have f1 := F1.out; have f2 := F2.out
  go_wp2_with fail
  refine wp_region_still_tail 9 (by kernel_rfl) (by kernel_rfl) ?_
  change wpStill _ _ w2.drew (fun a' => wpList _ _ _ _ a' w2.drew) _ _
  simp only [List.take_succ_cons, List.take_zero, List.drop_succ_cons, List.drop_zero]
  repeat still_step
  refine wpStill_nil ?_
  go_wp2
  go_ret
  exact ⟨rfl, _, _, HB.out.drew, NodeW.keep HV.out (KeepT.drewN _ w2 1), by rw [num_succ']; rfl⟩
set_option maxHeartbeats 3200000 in
set_option maxRecDepth 100000 in
theorem step_large (w : World) (M C b off n cap k a : Nat) (t u : Tr) (X Y : Option Addr) (old : Value) (hk : k < n) (_hn : n ≤ 4000) (_ha : a < 32)
    (m0 : w.cell? ⟨M, 0, none⟩ = some (.slice (some ⟨b, off, none⟩) n cap)) (_m1 : w.cell? ⟨M, 1, none⟩ = some (.slice (some ⟨C, 0, none⟩) n n)) (m2 : w.cell? ⟨M, 2, none⟩ = some (.int .i64 k))
    (i0 : w.cell? ⟨b, off + k * 5, none⟩ = some (.int .i64 2)) (_i1 : w.cell? ⟨b, off + k * 5 + 1, none⟩ = some (.int .i64 a))
    (_ho : w.cell? ⟨M, 3 + a, none⟩ = some old) (_f1 : w.frozen? ⟨M, 3 + a, none⟩ = false) (_f2 : w.frozen? ⟨M, 2, none⟩ = false)
    (B D : Nat) (hB : B < 32) (hD : D < 32) (i2 : w.cell? ⟨b, off + k * 5 + 2, none⟩ = some (.int .i64 B)) (i3 : w.cell? ⟨b, off + k * 5 + 3, none⟩ = some (.int .i64 D)) (hb : w.cell? ⟨M, 3 + B, none⟩ = some (.pointer X)) (hd : w.cell? ⟨M, 3 + D, none⟩ = some (.pointer Y)) (hN : NodeW 202 w t (.pointer X)) (hN2 : NodeW 202 w u (.pointer Y)) (lt : (tx t).length ≤ 2000000) (lu : (tx u).length ≤ 2000000) (hl : ¬ (tx (.pair t u)).length ≤ 2000000) :
    Calls Tryz.prog 216 #[.pointer (some ⟨M, 0, none⟩)] w fun e w' => e = .returned (.bool false) ∧ ∃ q, w' = w.drewN q := by
  have k0 : (0 : Int) ≤ (k : Int) := by omega
  have k1 : (k : Int) < (n : Int) := by omega
  have a0 : (0 : Int) ≤ (a : Int) := by omega
  have a1 : (a : Int) < 32 := by omega
  have b0 : (0 : Int) ≤ (B : Int) := by omega
  have b1 : (B : Int) < 32 := by omega
  have d0 : (0 : Int) ≤ (D : Int) := by omega
  have d1 : (D : Int) < 32 := by omega
  have HC := Lib.hid (fun W h1 h2 => cons_no W t u (.pointer X) (.pointer Y) h1 h2 lt lu hl)
  have HN := Lib.hid hN; have HN2 := Lib.hid hN2; clear hN hN2 hl lt lu
  go_enter Tryz.func216, Tryz.ntmps216
  go_wp2
  go_quiet (fail)
  go_wp2_with fail
  go_quiet ((go_at_call 230; exact quiet_add_left (HC.out _ (NodeW.keep HN.out (KeepT.drewN _ w _)) (NodeW.keep HN2.out (KeepT.drewN _ w _)))))
  go_wp2
  go_ret
  exact ⟨rfl, _, rfl⟩
set_option maxHeartbeats 3200000 in
set_option maxRecDepth 100000 in
theorem step_stay (w : World) (M C b off n cap k a : Nat) (_X : Option Addr) (old : Value) (hk : k < n) (hn : n ≤ 4000) (ha : a < 32)
    (m0 : w.cell? ⟨M, 0, none⟩ = some (.slice (some ⟨b, off, none⟩) n cap)) (_m1 : w.cell? ⟨M, 1, none⟩ = some (.slice (some ⟨C, 0, none⟩) n n)) (m2 : w.cell? ⟨M, 2, none⟩ = some (.int .i64 k))
    (i0 : w.cell? ⟨b, off + k * 5, none⟩ = some (.int .i64 5)) (i1 : w.cell? ⟨b, off + k * 5 + 1, none⟩ = some (.int .i64 a))
    (_ho : w.cell? ⟨M, 3 + a, none⟩ = some old) (_f1 : w.frozen? ⟨M, 3 + a, none⟩ = false) (f2 : w.frozen? ⟨M, 2, none⟩ = false)
    (hx : w.cell? ⟨M, 3 + a, none⟩ = some (.pointer none)) :
    Calls Tryz.prog 216 #[.pointer (some ⟨M, 0, none⟩)] w (StepGo w M (k + 1)) := by
  have k0 : (0 : Int) ≤ (k : Int) := by omega
  have k1 : (k : Int) < (n : Int) := by omega
  have a0 : (0 : Int) ≤ (a : Int) := by omega
  have a1 : (a : Int) < 32 := by omega
  clear _ho
  go_enter Tryz.func216, Tryz.ntmps216
  go_wp2
  go_quiet (fail)
  go_wp2_with fail
  go_quiet (fail)
  go_wp2
  go_ret
  exact ⟨rfl, _, rfl⟩
set_option maxHeartbeats 3200000 in
set_option maxRecDepth 100000 in
theorem step_jump (w : World) (M C b off n cap k a : Nat) (X : Addr) (old : Value) (hk : k < n) (hn : n ≤ 4000) (ha : a < 32)
    (m0 : w.cell? ⟨M, 0, none⟩ = some (.slice (some ⟨b, off, none⟩) n cap)) (_m1 : w.cell? ⟨M, 1, none⟩ = some (.slice (some ⟨C, 0, none⟩) n n)) (m2 : w.cell? ⟨M, 2, none⟩ = some (.int .i64 k))
    (i0 : w.cell? ⟨b, off + k * 5, none⟩ = some (.int .i64 5)) (i1 : w.cell? ⟨b, off + k * 5 + 1, none⟩ = some (.int .i64 a))
    (_ho : w.cell? ⟨M, 3 + a, none⟩ = some old) (_f1 : w.frozen? ⟨M, 3 + a, none⟩ = false) (f2 : w.frozen? ⟨M, 2, none⟩ = false)
    (d : Int) (i2 : w.cell? ⟨b, off + k * 5 + 2, none⟩ = some (.int .i64 d)) (d0 : -(k : Int) ≤ d) (d1 : d ≤ n - k) (hx : w.cell? ⟨M, 3 + a, none⟩ = some (.pointer (some X))) :
    Calls Tryz.prog 216 #[.pointer (some ⟨M, 0, none⟩)] w (StepGo w M (k + d)) := by
  have k0 : (0 : Int) ≤ (k : Int) := by omega
  have k1 : (k : Int) < (n : Int) := by omega
  have a0 : (0 : Int) ≤ (a : Int) := by omega
  have a1 : (a : Int) < 32 := by omega
  clear _ho
  go_enter Tryz.func216, Tryz.ntmps216
  go_wp2
  go_quiet (fail)
  go_wp2_with fail
  go_quiet (fail)
  go_wp2
  go_ret
  exact ⟨rfl, _, rfl⟩
theorem ended_any (w : World) (M n cap k : Nat) (A : Option Addr) (hn : n ≤ 4000) (hk : k ≤ n) (m0 : w.cell? ⟨M, 0, none⟩ = some (.slice A n cap)) (m2 : w.cell? ⟨M, 2, none⟩ = some (.int .i64 k)) :
    Calls Tryz.prog 140 #[.pointer (some ⟨M, 0, none⟩)] w fun e w' => e = .returned (.bool (k == n)) ∧ ∃ q, w' = w.drewN q := by
  rcases Nat.lt_or_ge k n with h | h
  · have e1 : (k == n) = false := by simp; omega
    have e2 : ((k : Int) == (n : Int)) = false := by simp; omega
    rw [e1]
    go_enter Tryz.func140, Tryz.ntmps140
    go_wp2
    go_quiet (fail)
    go_wp2
    go_ret
    exact ⟨rfl, _, rfl⟩
  · obtain rfl : k = n := by omega
    rw [show (k == k) = true from by simp]
    go_enter Tryz.func140, Tryz.ntmps140
    go_wp2
    go_quiet (fail)
    go_wp2
    go_ret
    exact ⟨rfl, _, rfl⟩
end Go.Proofs.YtmhoacnbmbhcjaaGreatDoor

namespace Go.Proofs.YtmhoacnbmbhcjaaGreatDoor
open Go.RowKit Pl

/-- only block M has changed, and there may be new ones -/
structure But (M : Nat) (w w' : World) : Prop where
  os : w'.os = w.os
  tape : w'.tape = w.tape
  output : w'.output = w.output
  size : w.heap.size ≤ w'.heap.size
  block : ∀ k, k < w.heap.size → k ≠ M → w'.heap[k]? = w.heap[k]?
theorem But.refl (M : Nat) (w : World) : But M w w := ⟨rfl, rfl, rfl, Nat.le_refl _, fun _ _ _ => rfl⟩
theorem But.trans {M : Nat} {a b c : World} (h : But M a b) (k : But M b c) : But M a c :=
  ⟨k.os.trans h.os, k.tape.trans h.tape, k.output.trans h.output, Nat.le_trans h.size k.size, fun x hx hM => (k.block x (Nat.lt_of_lt_of_le hx h.size) hM).trans (h.block x hx hM)⟩
theorem But.of_below {M : Nat} {w w' : World} (h : Below w.heap.size w w') : But M w w' := ⟨h.os, h.tape, h.output, h.size, fun k hk _ => h.block k hk⟩
theorem But.set {M o : Nat} (w : World) (v : Value) : But M w (w.setCell ⟨M, o, none⟩ v) :=
  ⟨rfl, rfl, rfl, by simp [World.setCell], fun k _ hM => Below.heap_setCell w _ v k hM⟩
theorem But.below {M B : Nat} {w w' : World} (h : But M w w') (hB : B ≤ M) (hs : B ≤ w.heap.size) : Below B w w' :=
  ⟨h.os, h.tape, h.output, h.size, fun k hk => h.block k (by omega) (by omega)⟩
theorem But.cell {M : Nat} {w w' : World} (h : But M w w') {p : Addr} (hp : p.block ≠ M) {v : Value} (hv : w.cell? p = some v) : w'.cell? p = some v :=
  (World.cell?_of_block (h.block p.block (cell_lt hv) hp)).trans hv
theorem But.keepT {M : Nat} {τ : TypeId} {w w' : World} (h : But M w w') (hM : ¬ TagB w M τ) : KeepT τ w w' :=
  ⟨h.size, fun b hb => h.block b hb.lt (fun e => hM (e ▸ hb))⟩
/-- a machine of a program in memory -/
structure Mach (w : World) (n0 M C : Nat) (ps : List Ins) (s : St) : Prop where
  prog : ∃ v, w.cell? ⟨M, 0, none⟩ = some v ∧ ArgP w v ps ∧ ∀ k, 0 < ps.length → v.ownBlock = some k → k < n0
  consts : w.cell? ⟨M, 1, none⟩ = some (.slice (some ⟨C, 0, none⟩) ps.length ps.length)
  place : w.cell? ⟨M, 2, none⟩ = some (.int .i64 (s.at_ : Int))
  regs : ∀ r, r < 32 → ∃ x, w.cell? ⟨M, 3 + r, none⟩ = some x ∧ NodeW 202 w (s.regs[r]?.getD .nil) x
  trees : ∀ k x, ps[k]? = some x → x.op = 0 → ∃ y, w.cell? ⟨C, k, none⟩ = some y ∧ NodeW 202 w (rd x.tree) y
  tagM : TagB w M 160
  free : ∀ o, w.frozen? ⟨M, o, none⟩ = false
  tagC : TagB w C 156
  old : n0 ≤ M ∧ n0 ≤ w.heap.size
theorem ArgP.keep {w w' : World} {v : Value} {ps : List Ins} {n0 : Nat} (h : ArgP w v ps) (hb : ∀ k, 0 < ps.length → v.ownBlock = some k → k < n0) (hk : ∀ k, k < n0 → w'.heap[k]? = w.heap[k]?) (hs : w.heap.size ≤ w'.heap.size) : ArgP w' v ps := by
  rcases h with h | ⟨h0, b, off, cap, rfl, hlt, hc⟩
  · exact .inl h
  · have hbn := hb b h0 rfl
    have hcell : ∀ o, w'.cell? ⟨b, o, none⟩ = w.cell? ⟨b, o, none⟩ := fun o => World.cell?_of_block (w := w) (a := ⟨b, o, none⟩) (hk b hbn)
    refine .inr ⟨h0, b, off, cap, rfl, Nat.lt_of_lt_of_le hlt hs, fun k x hx => ?_⟩
    obtain ⟨a0, a1, a2, a3, a4⟩ := hc k x hx
    exact ⟨(hcell _).trans a0, (hcell _).trans a1, (hcell _).trans a2, (hcell _).trans a3, (hcell _).trans a4⟩
theorem Mach.keep {w w' : World} {n0 M C : Nat} {ps : List Ins} {s : St} (h : Mach w n0 M C ps s) (hs : w.heap.size ≤ w'.heap.size)
    (hk : ∀ k, k < w.heap.size → (k < n0 ∨ k = M ∨ TagB w k 156 ∨ TagB w k 202) → w'.heap[k]? = w.heap[k]?) : Mach w' n0 M C ps s := by
  have hM : ∀ o, w'.cell? ⟨M, o, none⟩ = w.cell? ⟨M, o, none⟩ := fun o => World.cell?_of_block (w := w) (a := ⟨M, o, none⟩) (hk M h.tagM.lt (.inr (.inl rfl)))
  have hC : ∀ o, w'.cell? ⟨C, o, none⟩ = w.cell? ⟨C, o, none⟩ := fun o => World.cell?_of_block (w := w) (a := ⟨C, o, none⟩) (hk C h.tagC.lt (.inr (.inr (.inl h.tagC))))
  have hN : KeepT 202 w w' := ⟨hs, fun b hb => hk b hb.lt (.inr (.inr (.inr hb)))⟩
  refine ⟨?_, (hM _).trans h.consts, (hM _).trans h.place, fun r hr => ?_, fun k x hx h0 => ?_, ?_, fun o => ?_, ?_, h.old.1, Nat.le_trans h.old.2 hs⟩
  · obtain ⟨v, h1, h2, h3⟩ := h.prog
    exact ⟨v, (hM _).trans h1, h2.keep h3 (fun k hkn => hk k (by have := h.old.2; omega) (.inl hkn)) hs, h3⟩
  · obtain ⟨x, h1, h2⟩ := h.regs r hr
    exact ⟨x, (hM _).trans h1, NodeW.keep h2 hN⟩
  · obtain ⟨y, h1, h2⟩ := h.trees k x hx h0
    exact ⟨y, (hC _).trans h1, NodeW.keep h2 hN⟩
  · obtain ⟨D, fr, h1⟩ := h.tagM
    exact ⟨D, fr, by rw [hk M h.tagM.lt (.inr (.inl rfl)), h1]⟩
  · exact (World.frozen?_of_block (w := w) (a := ⟨M, o, none⟩) (hk M h.tagM.lt (.inr (.inl rfl)))).trans (h.free o)
  · obtain ⟨D, fr, h1⟩ := h.tagC
    exact ⟨D, fr, by rw [hk C h.tagC.lt (.inr (.inr (.inl ⟨D, fr, h1⟩))), h1]⟩
theorem Mach.below {w w' : World} {n0 M C : Nat} {ps : List Ins} {s : St} (h : Mach w n0 M C ps s) (hb : Below w.heap.size w w') : Mach w' n0 M C ps s :=
  h.keep hb.size fun k hk _ => hb.block k hk
theorem tag_set {w : World} {b : Nat} {τ : TypeId} (h : TagB w b τ) (a : Addr) (v : Value) : TagB (w.setCell a v) b τ := by
  obtain ⟨D, fr, h1⟩ := h
  by_cases e : b = a.block
  · subst e
    refine ⟨if a.spot.isSome then D else D.setIfInBounds a.off v, fr, ?_⟩
    simp [World.setCell, Array.getElem?_modify, h1]
  · exact ⟨D, fr, by rw [Below.heap_setCell _ _ _ _ e]; exact h1⟩
theorem set_same {w : World} {a : Addr} {u v : Value} (h : w.cell? a = some u) : (w.setCell a v).cell? a = some v := World.cell?_setCell_same w a v h
theorem set_other {w : World} {a b : Addr} {v : Value} (h : a ≠ b) : (w.setCell a v).cell? b = w.cell? b := World.cell?_setCell_other w a b v h
theorem addr_ne {M o o' : Nat} (h : o ≠ o') : (⟨M, o, none⟩ : Addr) ≠ ⟨M, o', none⟩ := fun e => h (by injection e)
theorem tag_three {w : World} {b : Nat} {σ τ : TypeId} (h : TagB w b σ) (k : TagB w b τ) : σ = τ := by
  by_cases e : σ = τ
  · exact e
  · exact absurd k (h.ne e)
/-- a register has been written, and the place -/
theorem Mach.put {w w1 : World} {n0 M C : Nat} {ps : List Ins} {s : St} (h : Mach w n0 M C ps s) (hb : Below w.heap.size w w1) (hr : s.regs.length = 32) {t : Tr} {v : Value} (hv : NodeW 202 w1 t v) {a : Nat} (ha : a < 32) :
    Mach ((w1.setCell ⟨M, 3 + a, none⟩ v).setCell ⟨M, 2, none⟩ (.int .i64 ((s.at_ + 1 : Nat) : Int))) n0 M C ps (s.put a t) ∧ But M w ((w1.setCell ⟨M, 3 + a, none⟩ v).setCell ⟨M, 2, none⟩ (.int .i64 ((s.at_ + 1 : Nat) : Int))) := by
  have h1 := h.below hb
  have hbut : But M w1 ((w1.setCell ⟨M, 3 + a, none⟩ v).setCell ⟨M, 2, none⟩ (.int .i64 ((s.at_ + 1 : Nat) : Int))) := (But.set w1 v).trans (But.set _ _)
  generalize hw2 : (w1.setCell ⟨M, 3 + a, none⟩ v).setCell ⟨M, 2, none⟩ (.int .i64 ((s.at_ + 1 : Nat) : Int)) = w2 at *
  have hKN : KeepT 202 w1 w2 := hbut.keepT (h1.tagM.ne (by decide))
  have hKC : KeepT 156 w1 w2 := hbut.keepT (h1.tagM.ne (by decide))
  have hMC : C ≠ M := fun e => by have := tag_three h1.tagC (e ▸ h1.tagM); exact absurd this (by decide)
  obtain ⟨x0, hx0, _⟩ := h1.regs a ha
  have hother : ∀ o, o ≠ 2 → o ≠ 3 + a → w2.cell? ⟨M, o, none⟩ = w1.cell? ⟨M, o, none⟩ := fun o e1 e2 => by
    rw [← hw2, set_other (addr_ne e1.symm), set_other (addr_ne e2.symm)]
  have hreg : w2.cell? ⟨M, 3 + a, none⟩ = some v := by
    rw [← hw2, set_other (addr_ne (by omega)), set_same hx0]
  have hpl : w2.cell? ⟨M, 2, none⟩ = some (.int .i64 ((s.at_ + 1 : Nat) : Int)) := by
    rw [← hw2]
    refine set_same (u := .int .i64 (s.at_ : Int)) ?_
    rw [set_other (addr_ne (by omega))]; exact h1.place
  refine ⟨⟨?_, ?_, hpl, fun r hr' => ?_, fun k x hx h0 => ?_, by rw [← hw2]; exact tag_set (tag_set h1.tagM _ _) _ _, fun o => ?_, h1.tagC.keep hKC, h1.old.1, Nat.le_trans h1.old.2 hbut.size⟩, (But.of_below hb).trans hbut⟩
  · obtain ⟨v0, g1, g2, g3⟩ := h1.prog
    exact ⟨v0, (hother 0 (by omega) (by omega)).trans g1, g2.keep g3 (fun k hk => hbut.block k (by have := h1.old.2; omega) (by have := h1.old.1; omega)) hbut.size, g3⟩
  · exact (hother 1 (by omega) (by omega)).trans h1.consts
  · by_cases e : r = a
    · subst e
      refine ⟨v, hreg, ?_⟩
      show NodeW _ w2 ((s.regs.set (r : Int).toNat t)[r]?.getD .nil) v
      rw [Int.toNat_natCast, List.getElem?_set_self (by omega)]
      exact NodeW.keep hv hKN
    · obtain ⟨x, g1, g2⟩ := h1.regs r hr'
      refine ⟨x, (hother _ (by omega) (by omega)).trans g1, ?_⟩
      show NodeW _ w2 ((s.regs.set (a : Int).toNat t)[r]?.getD .nil) x
      rw [Int.toNat_natCast, List.getElem?_set_ne (fun e' => e e'.symm)]
      exact NodeW.keep g2 hKN
  · obtain ⟨y, g1, g2⟩ := h1.trees k x hx h0
    exact ⟨y, hbut.cell (p := ⟨C, k, none⟩) hMC g1, NodeW.keep g2 hKN⟩
  · rw [← hw2, World.frozen?_setCell, World.frozen?_setCell]; exact h1.free o
/-- the place has been written -/
theorem Mach.go {w : World} {n0 M C : Nat} {ps : List Ins} {s : St} (h0 : Mach w n0 M C ps s) (q k : Nat) :
    Mach ((w.drewN q).setCell ⟨M, 2, none⟩ (.int .i64 (k : Int))) n0 M C ps ⟨k, s.regs⟩ ∧ But M w ((w.drewN q).setCell ⟨M, 2, none⟩ (.int .i64 (k : Int))) := by
  have hb : Below w.heap.size w (w.drewN q) := bdrewN (Below.refl _ _) q
  have h1 := h0.below hb
  generalize w.drewN q = w1 at *
  have hbut : But M w1 (w1.setCell ⟨M, 2, none⟩ (.int .i64 (k : Int))) := But.set _ _
  generalize hw2 : w1.setCell ⟨M, 2, none⟩ (.int .i64 (k : Int)) = w2 at *
  have hKN : KeepT 202 w1 w2 := hbut.keepT (h1.tagM.ne (by decide))
  have hKC : KeepT 156 w1 w2 := hbut.keepT (h1.tagM.ne (by decide))
  have hMC : C ≠ M := fun e => by have := tag_three h1.tagC (e ▸ h1.tagM); exact absurd this (by decide)
  have hother : ∀ o, o ≠ 2 → w2.cell? ⟨M, o, none⟩ = w1.cell? ⟨M, o, none⟩ := fun o e1 => by
    rw [← hw2, set_other (addr_ne e1.symm)]
  have hpl : w2.cell? ⟨M, 2, none⟩ = some (.int .i64 (k : Int)) := by
    rw [← hw2]; exact set_same h1.place
  refine ⟨⟨?_, ?_, hpl, fun r hr' => ?_, fun k x hx h0 => ?_, by rw [← hw2]; exact tag_set h1.tagM _ _, fun o => ?_, h1.tagC.keep hKC, h1.old.1, Nat.le_trans h1.old.2 hbut.size⟩, (But.of_below hb).trans hbut⟩
  · obtain ⟨v0, g1, g2, g3⟩ := h1.prog
    exact ⟨v0, (hother 0 (by omega)).trans g1, g2.keep g3 (fun k hk => hbut.block k (by have := h1.old.2; omega) (by have := h1.old.1; omega)) hbut.size, g3⟩
  · exact (hother 1 (by omega)).trans h1.consts
  · obtain ⟨x, g1, g2⟩ := h1.regs r hr'
    exact ⟨x, (hother _ (by omega)).trans g1, NodeW.keep g2 hKN⟩
  · obtain ⟨y, g1, g2⟩ := h1.trees k x hx h0
    exact ⟨y, hbut.cell (p := ⟨C, k, none⟩) hMC g1, NodeW.keep g2 hKN⟩
  · rw [← hw2, World.frozen?_setCell]; exact h1.free o

/-- a register has been written -/
theorem Mach.reg {w1 : World} {n0 M C : Nat} {ps : List Ins} {s : St} (h1 : Mach w1 n0 M C ps s) (hr : s.regs.length = 32) {t : Tr} {v : Value} (hv : NodeW 202 w1 t v) {a : Nat} (ha : a < 32) :
    Mach (w1.setCell ⟨M, 3 + a, none⟩ v) n0 M C ps ⟨s.at_, s.regs.set a t⟩ ∧ But M w1 (w1.setCell ⟨M, 3 + a, none⟩ v) := by
  have hbut : But M w1 (w1.setCell ⟨M, 3 + a, none⟩ v) := But.set w1 v
  generalize hw2 : w1.setCell ⟨M, 3 + a, none⟩ v = w2 at *
  have hKN : KeepT 202 w1 w2 := hbut.keepT (h1.tagM.ne (by decide))
  have hKC : KeepT 156 w1 w2 := hbut.keepT (h1.tagM.ne (by decide))
  have hMC : C ≠ M := fun e => by have := tag_three h1.tagC (e ▸ h1.tagM); exact absurd this (by decide)
  obtain ⟨x0, hx0, _⟩ := h1.regs a ha
  have hother : ∀ o, o ≠ 3 + a → w2.cell? ⟨M, o, none⟩ = w1.cell? ⟨M, o, none⟩ := fun o e2 => by
    rw [← hw2, set_other (addr_ne e2.symm)]
  have hreg : w2.cell? ⟨M, 3 + a, none⟩ = some v := by rw [← hw2, set_same hx0]
  refine ⟨⟨?_, ?_, (hother 2 (by omega)).trans h1.place, fun r hr' => ?_, fun k x hx h0 => ?_, by rw [← hw2]; exact tag_set h1.tagM _ _, fun o => ?_, h1.tagC.keep hKC, h1.old.1, Nat.le_trans h1.old.2 hbut.size⟩, hbut⟩
  · obtain ⟨v0, g1, g2, g3⟩ := h1.prog
    exact ⟨v0, (hother 0 (by omega)).trans g1, g2.keep g3 (fun k hk => hbut.block k (by have := h1.old.2; omega) (by have := h1.old.1; omega)) hbut.size, g3⟩
  · exact (hother 1 (by omega)).trans h1.consts
  · by_cases e : r = a
    · subst e
      refine ⟨v, hreg, ?_⟩
      show NodeW _ w2 ((s.regs.set r t)[r]?.getD .nil) v
      rw [List.getElem?_set_self (by omega)]
      exact NodeW.keep hv hKN
    · obtain ⟨x, g1, g2⟩ := h1.regs r hr'
      refine ⟨x, (hother _ (by omega)).trans g1, ?_⟩
      show NodeW _ w2 ((s.regs.set a t)[r]?.getD .nil) x
      rw [List.getElem?_set_ne (fun e' => e e'.symm)]
      exact NodeW.keep g2 hKN
  · obtain ⟨y, g1, g2⟩ := h1.trees k x hx h0
    exact ⟨y, hbut.cell (p := ⟨C, k, none⟩) hMC g1, NodeW.keep g2 hKN⟩
  · rw [← hw2, World.frozen?_setCell]; exact h1.free o

/-- what a step does -/
def StepOut (w : World) (n0 M C : Nat) (ps : List Ins) (s : St) (e : Ending) (w' : World) : Prop :=
  But M w w' ∧ match stepP ps s with
    | some s' => e = .returned (.bool true) ∧ Mach w' n0 M C ps s'
    | none => e = .returned (.bool false) ∧ Mach w' n0 M C ps s
theorem StepOut.of_to {w w' : World} {n0 M C : Nat} {ps : List Ins} {s : St} {e : Ending} {t : Tr} {a : Nat} (hm : Mach w n0 M C ps s) (hr : s.regs.length = 32) (ha : a < 32) (h : StepTo w M a t (s.at_ + 1) e w') (hs : stepP ps s = some (s.put a t)) : StepOut w n0 M C ps s e w' := by
  obtain ⟨he, w1, v, hb, hv, rfl⟩ := h
  obtain ⟨h1, h2⟩ := hm.put hb hr hv ha
  refine ⟨h2, ?_⟩
  rw [hs]
  exact ⟨he, h1⟩
theorem StepOut.of_go {w w' : World} {n0 M C k : Nat} {ps : List Ins} {s : St} {e : Ending} {d : Int} (hm : Mach w n0 M C ps s) (h : StepGo w M d e w') (hd : d = (k : Int)) (hs : stepP ps s = some ⟨k, s.regs⟩) : StepOut w n0 M C ps s e w' := by
  subst hd
  obtain ⟨he, q, rfl⟩ := h
  obtain ⟨h1, h2⟩ := hm.go q k
  refine ⟨h2, ?_⟩
  rw [hs]
  exact ⟨he, h1⟩
theorem ArgP.some {w : World} {v : Value} {ps : List Ins} (h : ArgP w v ps) (h0 : 0 < ps.length) : ∃ b off cap, v = .slice (some ⟨b, off, none⟩) ps.length cap ∧ ProgAt w b off ps := by
  rcases h with ⟨rfl, _⟩ | ⟨_, h⟩
  · simp at h0
  · exact h
theorem step_any (w : World) (n0 M C : Nat) (ps : List Ins) (s : St) (hm : Mach w n0 M C ps s) (hv : PValid ps) (hs : s.ok ps.length) (hlt : s.at_ < ps.length) :
    Calls Tryz.prog 216 #[.pointer (some ⟨M, 0, none⟩)] w (StepOut w n0 M C ps s) := by
  obtain ⟨x, hx⟩ := get_at hlt
  have hn := hv.1
  obtain ⟨v, m0, hA, _⟩ := hm.prog
  obtain ⟨b, off, cap, rfl, hP⟩ := hA.some (by omega)
  obtain ⟨i0, i1, i2, i3, _⟩ := hP.2 s.at_ x hx
  have hr := hv.2.2 s.at_ x hx
  have hreg : reg x.a = true := by unfold right at hr; simp only [Bool.and_eq_true] at hr; exact hr.1.1.1
  obtain ⟨a, ha, ha32⟩ : ∃ a : Nat, x.a = (a : Int) ∧ a < 32 := by have := reg_true hreg; exact ⟨x.a.toNat, by omega, by omega⟩
  obtain ⟨old, ho, hnO⟩ := hm.regs a ha32
  have f1 := hm.free (3 + a)
  have f2 := hm.free 2
  have m1 := hm.consts
  have m2 := hm.place
  rw [ha] at i1
  have hS : stepP ps s = stepI x s := by unfold stepP; rw [hx]; rfl
  have regB : ∀ n : Int, reg n = true → ∃ B : Nat, n = (B : Int) ∧ B < 32 ∧ ∃ X, w.cell? ⟨M, 3 + B, none⟩ = some (.pointer X) ∧ NodeW 202 w (s.reg n) (.pointer X) := fun n hn => by
    have := reg_true hn
    obtain ⟨y, h1, h2⟩ := hm.regs n.toNat (by omega)
    obtain ⟨Y, rfl⟩ := h2.one
    exact ⟨n.toNat, by omega, by omega, Y, h1, h2⟩
  unfold right at hr
  simp only [Bool.and_eq_true] at hr
  have hr2 := hr.2
  by_cases h0 : x.op = 0
  · rw [h0] at i0
    obtain ⟨y, hc, hN⟩ := hm.trees s.at_ x hx h0
    obtain ⟨Y, rfl⟩ := hN.one
    exact (step_set w M C b off ps.length cap s.at_ a (rd x.tree) Y old hlt hn ha32 m0 m1 m2 i0 i1 ho f1 f2 hc hN).mono fun e w' h => .of_to hm hs.2.1 ha32 h (by rw [hS]; unfold stepI; rw [if_pos h0, ha])
  rw [if_neg h0] at hr2
  by_cases h1 : x.op = 1
  · rw [h1] at i0
    rw [if_pos (.inl h1)] at hr2
    obtain ⟨B, hB, hB32, Y, hb, hN⟩ := regB x.b hr2
    rw [hB] at i2
    exact (step_move w M C b off ps.length cap s.at_ a (s.reg x.b) Y old hlt hn ha32 m0 m1 m2 i0 i1 ho f1 f2 B hB32 i2 hb hN).mono fun e w' h => .of_to hm hs.2.1 ha32 h (by rw [hS]; unfold stepI; rw [if_neg h0, if_pos h1, ha])
  by_cases h3 : x.op = 3
  · rw [h3] at i0
    rw [if_pos (.inr (.inl h3))] at hr2
    obtain ⟨B, hB, hB32, Y, hb, hN⟩ := regB x.b hr2
    rw [hB] at i2
    exact (step_head w M C b off ps.length cap s.at_ a (s.reg x.b) Y old hlt hn ha32 m0 m1 m2 i0 i1 ho f1 f2 B hB32 i2 hb hN).mono fun e w' h => .of_to hm hs.2.1 ha32 h (by rw [hS]; unfold stepI; rw [if_neg h0, if_neg h1, if_neg (by omega), if_pos h3, ha])
  by_cases h4 : x.op = 4
  · rw [h4] at i0
    rw [if_pos (.inr (.inr h4))] at hr2
    obtain ⟨B, hB, hB32, Y, hb, hN⟩ := regB x.b hr2
    rw [hB] at i2
    exact (step_tail w M C b off ps.length cap s.at_ a (s.reg x.b) Y old hlt hn ha32 m0 m1 m2 i0 i1 ho f1 f2 B hB32 i2 hb hN).mono fun e w' h => .of_to hm hs.2.1 ha32 h (by rw [hS]; unfold stepI; rw [if_neg h0, if_neg h1, if_neg (by omega), if_neg h3, if_pos h4, ha])
  rw [if_neg (by omega)] at hr2
  by_cases h2 : x.op = 2
  · rw [h2] at i0
    rw [if_pos h2] at hr2
    simp only [Bool.and_eq_true] at hr2
    obtain ⟨B, hB, hB32, Y, hb, hN⟩ := regB x.b hr2.1
    obtain ⟨D, hD, hD32, Z, hd, hN2⟩ := regB x.c hr2.2
    rw [hB] at i2
    rw [hD] at i3
    by_cases hl : (tx (.pair (s.reg x.b) (s.reg x.c))).length ≤ 2000000
    · exact (step_cons w M C b off ps.length cap s.at_ a (s.reg x.b) (s.reg x.c) Y Z old hlt hn ha32 m0 m1 m2 i0 i1 ho f1 f2 B D hB32 hD32 i2 i3 hb hd hN hN2 hl).mono fun e w' h => .of_to hm hs.2.1 ha32 h (by rw [hS]; unfold stepI; rw [if_neg h0, if_neg h1, if_pos h2, if_pos hl, ha])
    · refine (step_large w M C b off ps.length cap s.at_ a (s.reg x.b) (s.reg x.c) Y Z old hlt hn ha32 m0 m1 m2 i0 i1 ho f1 f2 B D hB32 hD32 i2 i3 hb hd hN hN2 (St.reg_le hs _) (St.reg_le hs _) hl).mono fun e w' h => ?_
      obtain ⟨he, q, rfl⟩ := h
      have hb := bdrewN (Below.refl w.heap.size w) q
      refine ⟨But.of_below hb, ?_⟩
      have : stepP ps s = none := by rw [hS]; unfold stepI; rw [if_neg h0, if_neg h1, if_pos h2, if_neg hl]
      rw [this]
      exact ⟨he, hm.below hb⟩
  rw [if_neg h2] at hr2
  by_cases h5 : x.op = 5
  · rw [h5] at i0
    rw [if_pos h5] at hr2
    simp only [Bool.and_eq_true, decide_eq_true_eq] at hr2
    obtain ⟨B, hB, hB32, Y, hb, hN⟩ := regB x.a hreg
    obtain rfl : B = a := by omega
    cases Y with
    | none =>
      have hnil : s.reg x.a = .nil := by
        rcases hN.ptr with ⟨h, _⟩ | ⟨_, A, h⟩
        · exact h
        · cases h
      exact (step_stay w M C b off ps.length cap s.at_ B none old hlt hn ha32 m0 m1 m2 i0 i1 ho f1 f2 hb).mono fun e w' h => .of_go hm h (k := s.at_ + 1) (by omega) (by rw [hS]; unfold stepI; rw [if_neg h0, if_neg h1, if_neg h2, if_neg h3, if_neg h4, if_pos hnil])
    | some A =>
      have hne : s.reg x.a ≠ .nil := by
        rcases hN.ptr with ⟨_, h⟩ | ⟨h, _⟩
        · cases h
        · exact h
      exact (step_jump w M C b off ps.length cap s.at_ B A old hlt hn ha32 m0 m1 m2 i0 i1 ho f1 f2 x.b i2 hr2.1 hr2.2 hb).mono fun e w' h => .of_go hm h (k := ((s.at_ : Int) + x.b).toNat) (by omega) (by rw [hS]; unfold stepI; rw [if_neg h0, if_neg h1, if_neg h2, if_neg h3, if_neg h4, if_neg hne])
  · rw [if_neg h5] at hr2
    cases hr2
end Go.Proofs.YtmhoacnbmbhcjaaGreatDoor
