/- Trees as nodes that may be shared, and size, cons, head, tail of both packages. By an AI agent. -/
import Derived.Test.YtpiahjbpidcjpaaTr
import Derived.Test.YtpiahjbpidcjpaaCV
namespace Go.Proofs.Ytpiahjbpidcjpaa
open Go.RowKit Pl

/-- a value that is a tree of nodes in what is read -/
def NodeC (c : Nat → Nat → Value → Prop) : Tr → Value → Prop
  | .nil, v => v = .pointer none
  | .pair a b, v => ∃ B o x y, v = .pointer (some ⟨B, o, none⟩) ∧ c B o x ∧ c B (o + 1) y ∧ c B (o + 2) (.int .i64 ((tx (.pair a b)).length : Nat)) ∧ NodeC c a x ∧ NodeC c b y
theorem NodeC.mono {c d : Nat → Nat → Value → Prop} (h : ∀ b o x, c b o x → d b o x) : ∀ {t : Tr} {v : Value}, NodeC c t v → NodeC d t v := by
  intro t
  induction t with
  | nil => intro v hv; exact hv
  | pair a b iha ihb =>
    rintro v ⟨B, o, x, y, rfl, h1, h2, h3, h4, h5⟩
    exact ⟨B, o, x, y, rfl, h _ _ _ h1, h _ _ _ h2, h _ _ _ h3, iha h4, ihb h5⟩
/-- a block of cells of one element type -/
def TagB (w : World) (b : Nat) (τ : TypeId) : Prop := ∃ C fr, w.heap[b]? = some (.cells C τ fr)
theorem TagB.lt {w : World} {b : Nat} {τ : TypeId} (h : TagB w b τ) : b < w.heap.size := by
  obtain ⟨C, fr, h⟩ := h; exact (Array.getElem?_eq_some_iff.1 h).1
theorem TagB.ne {w : World} {b : Nat} {σ τ : TypeId} (h : TagB w b σ) (hne : σ ≠ τ) : ¬ TagB w b τ := by
  rintro ⟨C, fr, h1⟩
  obtain ⟨D, gr, h2⟩ := h
  rw [h1] at h2; cases h2; exact hne rfl
/-- the cells of a world in the blocks of one element type -/
def CellsAt (τ : TypeId) (w : World) (b o : Nat) (x : Value) : Prop := TagB w b τ ∧ w.cell? ⟨b, o, none⟩ = some x
abbrev NodeW (τ : TypeId) (w : World) (t : Tr) (v : Value) : Prop := NodeC (CellsAt τ w) t v
/-- the blocks of an element type are as they were -/
structure KeepT (τ : TypeId) (w w' : World) : Prop where
  size : w.heap.size ≤ w'.heap.size
  block : ∀ b, TagB w b τ → w'.heap[b]? = w.heap[b]?
theorem KeepT.refl (τ : TypeId) (w : World) : KeepT τ w w := ⟨Nat.le_refl _, fun _ _ => rfl⟩
theorem TagB.keep {w w' : World} {b : Nat} {τ : TypeId} (h : TagB w b τ) (hk : KeepT τ w w') : TagB w' b τ := by
  obtain ⟨C, fr, h1⟩ := h
  exact ⟨C, fr, by rw [hk.block b ⟨C, fr, h1⟩, h1]⟩
theorem KeepT.trans {τ : TypeId} {a b c : World} (h : KeepT τ a b) (k : KeepT τ b c) : KeepT τ a c :=
  ⟨Nat.le_trans h.size k.size, fun x hx => (k.block x (hx.keep h)).trans (h.block x hx)⟩
theorem KeepT.below {τ : TypeId} {w w' : World} (h : Below w.heap.size w w') : KeepT τ w w' := ⟨h.size, fun _ hb => h.block _ hb.lt⟩
theorem KeepT.alloc (τ : TypeId) (w : World) (o : Obj) : KeepT τ w (w.alloc o) := KeepT.below ((Below.refl _ _).alloc (Nat.le_refl _) o)
theorem KeepT.drewN (τ : TypeId) (w : World) (n : Nat) : KeepT τ w (w.drewN n) := ⟨Nat.le_refl _, fun _ _ => rfl⟩
theorem KeepT.setCell {τ : TypeId} {w : World} {a : Addr} (h : ¬ TagB w a.block τ) (u : Value) : KeepT τ w (w.setCell a u) :=
  ⟨by simp [World.setCell], fun b hb => Below.heap_setCell w a u b (fun e => h (e ▸ hb))⟩
theorem KeepT.grown {τ : TypeId} {w w' : World} {row : Option Nat} (hg : w.grownBy w' row) (h : ∀ k, row = some k → ¬ TagB w k τ) : KeepT τ w w' :=
  ⟨hg.size, fun b hb => hg.block b hb.lt (fun e => h b e.symm hb)⟩
theorem NodeW.keep {τ : TypeId} {w w' : World} {t : Tr} {v : Value} (h : NodeW τ w t v) (hk : KeepT τ w w') : NodeW τ w' t v :=
  NodeC.mono (fun b o x ⟨h1, h2⟩ => ⟨h1.keep hk, by rw [← h2]; exact World.cell?_of_block (w := w) (a := ⟨b, o, none⟩) (hk.block b h1)⟩) h
theorem NodeW.below {τ : TypeId} {w w' : World} {t : Tr} {v : Value} (h : NodeW τ w t v) (hb : Below w.heap.size w w') : NodeW τ w' t v := h.keep (.below hb)
theorem tag_new (w : World) (C : Array Value) (τ : TypeId) : TagB (w.alloc (.cells C τ)) w.heap.size τ := ⟨C, _, heap_alloc_new w _⟩
theorem NodeC.ptr {c : Nat → Nat → Value → Prop} {t : Tr} {v : Value} (h : NodeC c t v) : (t = .nil ∧ v = .pointer none) ∨ (t ≠ .nil ∧ ∃ A : Addr, v = .pointer (some A)) := by
  cases t with
  | nil => exact .inl ⟨rfl, h⟩
  | pair a b => obtain ⟨B, o, x, y, rfl, _⟩ := h; exact .inr ⟨by simp, _, rfl⟩
theorem NodeC.one {c : Nat → Nat → Value → Prop} {t : Tr} {v : Value} (h : NodeC c t v) : ∃ A, v = .pointer A := by
  rcases h.ptr with ⟨_, h⟩ | ⟨_, A, h⟩ <;> exact ⟨_, h⟩
set_option maxHeartbeats 400000 in
set_option maxRecDepth 100000 in
theorem size_any (τ : TypeId) (w : World) (t : Tr) (v : Value) (h : NodeW τ w t v) :
    Calls Try.prog 112 #[v] w fun e w' => e = .returned (.int .i64 ((tx t).length : Nat)) ∧ w = w' := by
  cases t with
  | nil =>
    obtain rfl : v = .pointer none := h
    go_enter Try.func112, Try.ntmps112
    go_wp2
    go_ret
    exact ⟨rfl, rfl⟩
  | pair a b =>
    obtain ⟨B, o, x, y, rfl, h1, h2, ⟨_, h3⟩, h4, h5⟩ := h
    generalize (tx (.pair a b)).length = n at *
    go_enter Try.func112, Try.ntmps112
    go_wp2
    go_ret
    exact ⟨rfl, rfl⟩
set_option maxHeartbeats 400000 in
set_option maxRecDepth 100000 in
theorem rSize_any (τ : TypeId) (w : World) (t : Tr) (v : Value) (h : NodeW τ w t v) :
    Calls Try.prog 121 #[v] w fun e w' => e = .returned (.int .i64 ((tx t).length : Nat)) ∧ w = w' := by
  cases t with
  | nil =>
    obtain rfl : v = .pointer none := h
    go_enter Try.func121, Try.ntmps121
    go_wp2
    go_ret
    exact ⟨rfl, rfl⟩
  | pair a b =>
    obtain ⟨B, o, x, y, rfl, h1, h2, ⟨_, h3⟩, h4, h5⟩ := h
    generalize (tx (.pair a b)).length = n at *
    go_enter Try.func121, Try.ntmps121
    go_wp2
    go_ret
    exact ⟨rfl, rfl⟩
/-- the value of a part -/
def PartOf (τ : TypeId) (w : World) (t : Tr) (e : Ending) (w' : World) : Prop := ∃ v, e = .returned v ∧ NodeW τ w t v ∧ w = w'
set_option maxHeartbeats 400000 in
set_option maxRecDepth 100000 in
theorem head_any (τ : TypeId) (w : World) (t : Tr) (v : Value) (h : NodeW τ w t v) :
    Calls Try.prog 114 #[v] w (PartOf τ w (hdT t)) := by
  cases t with
  | nil =>
    obtain rfl : v = .pointer none := h
    go_enter Try.func114, Try.ntmps114
    go_wp2
    go_ret
    exact ⟨_, rfl, rfl, rfl⟩
  | pair a b =>
    obtain ⟨B, o, x, y, rfl, ⟨_, h1⟩, h2, h3, h4, h5⟩ := h
    have H4 := Lib.hid h4; clear h4
    go_enter Try.func114, Try.ntmps114
    go_wp2
    go_ret
    exact ⟨_, rfl, H4.out, rfl⟩
set_option maxHeartbeats 400000 in
set_option maxRecDepth 100000 in
theorem tail_any (τ : TypeId) (w : World) (t : Tr) (v : Value) (h : NodeW τ w t v) :
    Calls Try.prog 115 #[v] w (PartOf τ w (tlT t)) := by
  cases t with
  | nil =>
    obtain rfl : v = .pointer none := h
    go_enter Try.func115, Try.ntmps115
    go_wp2
    go_ret
    exact ⟨_, rfl, rfl, rfl⟩
  | pair a b =>
    obtain ⟨B, o, x, y, rfl, h1, ⟨_, h2⟩, h3, h4, h5⟩ := h
    have H5 := Lib.hid h5; clear h5
    go_enter Try.func115, Try.ntmps115
    go_wp2
    go_ret
    exact ⟨_, rfl, H5.out, rfl⟩
set_option maxHeartbeats 400000 in
set_option maxRecDepth 100000 in
theorem rFirst_any (τ : TypeId) (w : World) (t : Tr) (v : Value) (h : NodeW τ w t v) :
    Calls Try.prog 81 #[v] w (PartOf τ w (hdT t)) := by
  cases t with
  | nil =>
    obtain rfl : v = .pointer none := h
    go_enter Try.func81, Try.ntmps81
    go_wp2
    go_ret
    exact ⟨_, rfl, rfl, rfl⟩
  | pair a b =>
    obtain ⟨B, o, x, y, rfl, ⟨_, h1⟩, h2, h3, h4, h5⟩ := h
    have H4 := Lib.hid h4; clear h4
    go_enter Try.func81, Try.ntmps81
    go_wp2
    go_ret
    exact ⟨_, rfl, H4.out, rfl⟩
set_option maxHeartbeats 400000 in
set_option maxRecDepth 100000 in
theorem rRest_any (τ : TypeId) (w : World) (t : Tr) (v : Value) (h : NodeW τ w t v) :
    Calls Try.prog 82 #[v] w (PartOf τ w (tlT t)) := by
  cases t with
  | nil =>
    obtain rfl : v = .pointer none := h
    go_enter Try.func82, Try.ntmps82
    go_wp2
    go_ret
    exact ⟨_, rfl, rfl, rfl⟩
  | pair a b =>
    obtain ⟨B, o, x, y, rfl, h1, ⟨_, h2⟩, h3, h4, h5⟩ := h
    have H5 := Lib.hid h5; clear h5
    go_enter Try.func82, Try.ntmps82
    go_wp2
    go_ret
    exact ⟨_, rfl, H5.out, rfl⟩
/-- a pair that has just been made -/
theorem node_new {τ : TypeId} {w : World} {a b : Tr} {x y : Value} (ha : NodeW τ w a x) (hb : NodeW τ w b y) (n : Int) (hn : n = ((tx (.pair a b)).length : Nat)) :
    NodeW τ (w.alloc (.cells #[x, y, .int .i64 n] τ)) (.pair a b) (.pointer (some ⟨w.heap.size, 0, none⟩)) := by
  have hB := (Below.refl w.heap.size w).alloc (Nat.le_refl _) (.cells #[x, y, .int .i64 n] τ)
  subst hn
  exact ⟨_, _, x, y, rfl, ⟨tag_new _ _ _, by rw [World.cell?_alloc_new]; rfl⟩, ⟨tag_new _ _ _, by rw [World.cell?_alloc_new]; rfl⟩, ⟨tag_new _ _ _, by rw [World.cell?_alloc_new]; rfl⟩, ha.below hB, hb.below hB⟩
def ConsOut (τ : TypeId) (w : World) (t : Tr) (e : Ending) (w' : World) : Prop :=
  ∃ v, e = .returned v ∧ NodeW τ w' t v ∧ Below w.heap.size w w'
def ConsOut2 (τ : TypeId) (w : World) (t : Tr) (e : Ending) (w' : World) : Prop :=
  ∃ v, e = .returned (.tuple #[v, .bool true]) ∧ NodeW τ w' t v ∧ Below w.heap.size w w'
set_option maxHeartbeats 400000 in
set_option maxRecDepth 100000 in
theorem rCons_any (w : World) (a b : Tr) (x y : Value) (ha : NodeW 123 w a x) (hb : NodeW 123 w b y) (la : (tx a).length ≤ 2000000) (lb : (tx b).length ≤ 2000000) :
    Calls Try.prog 80 #[x, y] w (ConsOut 123 w (.pair a b)) := by
  obtain ⟨X, rfl⟩ := ha.one
  obtain ⟨Y, rfl⟩ := hb.one
  have H := Lib.hid (fun n hn => node_new ha hb n hn)
  have H1 := Lib.hid (fun W => rSize_any 123 W a (.pointer X))
  have H2 := Lib.hid (fun W => rSize_any 123 W b (.pointer Y))
  have HL := Lib.hid (tx_pair a b)
  have HA := Lib.hid ha; have HB := Lib.hid hb; clear ha hb
  generalize hm : (tx a).length = m at *
  generalize hk : (tx b).length = k at *
  clear hm hk
  go_enter Try.func80, Try.ntmps80
  go_wp2_with fail
  refine (H1.out _ HA.out).mono ?_
  rintro e w' ⟨rfl, rfl⟩
  go_wp2_with fail
  refine (H2.out _ HB.out).mono ?_
  rintro e w' ⟨rfl, rfl⟩
  go_wp2_with fail
  go_ret
  exact ⟨_, rfl, H.out _ (by rw [HL.out]; push_cast; rfl), (Below.refl _ _).alloc (Nat.le_refl _) _⟩
set_option maxHeartbeats 400000 in
set_option maxRecDepth 100000 in
theorem cons_yes (w : World) (a b : Tr) (x y : Value) (ha : NodeW 151 w a x) (hb : NodeW 151 w b y) (la : (tx (.pair a b)).length ≤ 2000000) :
    Calls Try.prog 113 #[x, y] w (ConsOut2 151 w (.pair a b)) := by
  obtain ⟨X, rfl⟩ := ha.one
  obtain ⟨Y, rfl⟩ := hb.one
  have H := Lib.hid (fun n hn => node_new ha hb n hn)
  have H1 := Lib.hid (fun W => size_any 151 W a (.pointer X))
  have H2 := Lib.hid (fun W => size_any 151 W b (.pointer Y))
  have HL := Lib.hid (tx_pair a b)
  have HA := Lib.hid ha; have HB := Lib.hid hb; clear ha hb
  rw [HL.out] at la
  generalize hm : (tx a).length = m at *
  generalize hk : (tx b).length = k at *
  clear hm hk
  have la' : (1 : Int) + (m : Int) + (k : Int) ≤ 2000000 := by omega
  go_enter Try.func113, Try.ntmps113
  go_wp2_with fail
  refine (H1.out _ HA.out).mono ?_
  rintro e w' ⟨rfl, rfl⟩
  go_wp2_with fail
  refine (H2.out _ HB.out).mono ?_
  rintro e w' ⟨rfl, rfl⟩
  go_wp2_with fail
  go_ret2
  exact ⟨_, rfl, H.out _ (by rw [HL.out]; push_cast; rfl), (Below.refl _ _).alloc (Nat.le_refl _) _⟩
set_option maxHeartbeats 400000 in
set_option maxRecDepth 100000 in
theorem cons_no (w : World) (a b : Tr) (x y : Value) (ha : NodeW 151 w a x) (hb : NodeW 151 w b y) (la : (tx a).length ≤ 2000000) (lb : (tx b).length ≤ 2000000) (hl : ¬ (tx (.pair a b)).length ≤ 2000000) :
    Calls Try.prog 113 #[x, y] w fun e w' => e = .returned (.tuple #[.pointer none, .bool false]) ∧ w = w' := by
  obtain ⟨X, rfl⟩ := ha.one
  obtain ⟨Y, rfl⟩ := hb.one
  have H1 := Lib.hid (fun W => size_any 151 W a (.pointer X))
  have H2 := Lib.hid (fun W => size_any 151 W b (.pointer Y))
  have HL := Lib.hid (tx_pair a b)
  have HA := Lib.hid ha; have HB := Lib.hid hb; clear ha hb
  rw [HL.out] at hl
  generalize hm : (tx a).length = m at *
  generalize hk : (tx b).length = k at *
  clear hm hk
  have la' : (2000000 : Int) < (1 : Int) + (m : Int) + (k : Int) := by omega
  clear hl
  go_enter Try.func113, Try.ntmps113
  go_wp2_with fail
  refine (H1.out _ HA.out).mono ?_
  rintro e w' ⟨rfl, rfl⟩
  go_wp2_with fail
  refine (H2.out _ HB.out).mono ?_
  rintro e w' ⟨rfl, rfl⟩
  go_wp2_with fail
  go_ret2
  exact ⟨rfl, rfl⟩
end Go.Proofs.Ytpiahjbpidcjpaa
