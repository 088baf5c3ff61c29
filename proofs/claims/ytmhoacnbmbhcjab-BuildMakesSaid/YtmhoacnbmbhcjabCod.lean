/- The reference's pair, CodeOf. By an AI agent. -/
import Derived.Test.YtmhoacnbmbhcjabPrg
import Derived.Test.YtmhoacnbmbhcjabLsts
import Derived.Deep.RegionLaw
import Derived.Deep.DrawnRows
namespace Go.Proofs.Ytmhoacnbmbhcjab
open Go.RowKit Pl

def pr (a b : List UInt8) : List UInt8 := 49 :: (a ++ b)
theorem pr_len (a b : List UInt8) : (pr a b).length = 1 + a.length + b.length := by simp [pr]; omega
theorem boxed {w w1 : World} {v0 v1 v2 v3 v4 : Value} {ty : TypeId} {fr : Nat × Nat} (h : Below (w.alloc (.cells #[v0, v1, v2, v3, v4] ty fr)).heap.size (w.alloc (.cells #[v0, v1, v2, v3, v4] ty fr)) w1) :
    w1.cell? ⟨w.heap.size, 0, none⟩ = some v0 ∧ w1.cell? ⟨w.heap.size, 1, none⟩ = some v1 ∧ w1.cell? ⟨w.heap.size, 2, none⟩ = some v2 ∧ w1.cell? ⟨w.heap.size, 3, none⟩ = some v3 ∧ w1.cell? ⟨w.heap.size, 4, none⟩ = some v4 := by
  have e : ∀ o, w1.cell? ⟨w.heap.size, o, none⟩ = (w.alloc (.cells #[v0, v1, v2, v3, v4] ty fr)).cell? ⟨w.heap.size, o, none⟩ := fun o => h.cell (p := ⟨w.heap.size, o, none⟩) (by simp)
  rw [e, e, e, e, e]
  simp only [World.cell?, heap_alloc_new]
  exact ⟨rfl, rfl, rfl, rfl, rfl⟩

theorem keep2 {W w1 : World} {B : Nat} {u v : Value} (h : Below W.heap.size W w1) (hB : B < W.heap.size) (hc : W.cell? ⟨B, 2, none⟩ = some u ∧ W.cell? ⟨B, 3, none⟩ = some v) :
    w1.cell? ⟨B, 2, none⟩ = some u ∧ w1.cell? ⟨B, 3, none⟩ = some v := ⟨by rw [h.cell (p := ⟨B, 2, none⟩) hB]; exact hc.1, by rw [h.cell (p := ⟨B, 3, none⟩) hB]; exact hc.2⟩

/-- the second part of an instruction's code -/
def body (x : Ins) : List UInt8 :=
  if x.op = 0 then pr (num x.a.toNat) x.tree
  else if x.op = 2 then pr (num x.a.toNat) (pr (num x.b.toNat) (num x.c.toNat))
  else if x.op = 5 then (if x.b < 0 then pr (num x.a.toNat) (pr [49, 48, 48] (num (-x.b).toNat)) else pr (num x.a.toNat) (pr [48] (num x.b.toNat)))
  else pr (num x.a.toNat) (num x.b.toNat)
def codeOf (x : Ins) : List UInt8 := pr (num x.op.toNat) (body x)

end Go.Proofs.Ytmhoacnbmbhcjab

namespace Go.Proofs.Ytmhoacnbmbhcjab.Pl

/-- the first n elements of a list, and what is behind them -/
def firsts : Nat → List UInt8 → List (List UInt8)
  | 0, _ => []
  | n + 1, l => if l = [48] then [] else hd l :: firsts n (tl l)
def after : Nat → List UInt8 → List UInt8
  | 0, l => l
  | n + 1, l => if l = [48] then l else after n (tl l)
theorem firsts_nil (n : Nat) : firsts n [48] = [] := by cases n <;> simp [firsts]
theorem after_nil (n : Nat) : after n [48] = [48] := by cases n <;> simp [after]
theorem firsts_one {l : List UInt8} (h : l ≠ [48]) : firsts 1 l = [hd l] := by simp [firsts, h]
theorem after_one {l : List UInt8} (h : l ≠ [48]) : after 1 l = tl l := by simp [after, h]
theorem firsts_add (a : Nat) : ∀ (b : Nat) (l : List UInt8), firsts (a + b) l = firsts a l ++ firsts b (after a l) := by
  induction a with
  | zero => intro b l; rw [Nat.zero_add]; rfl
  | succ a ih =>
    intro b l
    rw [show a + 1 + b = (a + b) + 1 from by omega]
    by_cases h : l = [48]
    · subst h; rw [firsts_nil, firsts_nil, after_nil, firsts_nil]; rfl
    · simp only [firsts, after, if_neg h, ih b (tl l), List.cons_append]
theorem after_add (a : Nat) : ∀ (b : Nat) (l : List UInt8), after (a + b) l = after b (after a l) := by
  induction a with
  | zero => intro b l; rw [Nat.zero_add]; rfl
  | succ a ih =>
    intro b l
    rw [show a + 1 + b = (a + b) + 1 from by omega]
    by_cases h : l = [48]
    · subst h; rw [after_nil, after_nil, after_nil]
    · simp only [after, if_neg h, ih b (tl l)]
theorem vld_after (n : Nat) : ∀ {l : List UInt8}, vld l = true → vld (after n l) = true := by
  induction n with
  | zero => intro l h; exact h
  | succ n ih =>
    intro l h
    by_cases h0 : l = [48]
    · subst h0; rw [after_nil]; exact h
    · simp only [after, if_neg h0]; exact ih (vld_hd h).2
theorem firsts_valid (n : Nat) : ∀ {l : List UInt8}, vld l = true → ∀ x, x ∈ firsts n l → vld x = true := by
  induction n with
  | zero => intro l _ x hx; simp [firsts] at hx
  | succ n ih =>
    intro l h x hx
    by_cases h0 : l = [48]
    · subst h0; rw [firsts_nil] at hx; simp at hx
    · simp only [firsts, if_neg h0] at hx
      rcases List.mem_cons.1 hx with rfl | hx
      · exact (vld_hd h).1
      · exact ih (vld_hd h).2 x hx
theorem vld_pos {l : List UInt8} (h : vld l = true) : 1 ≤ l.length := fs_ge (vld_iff.1 h).2
theorem len_pair {l : List UInt8} (h : vld l = true) (hn : l ≠ [48]) : l.length = 1 + (hd l).length + (tl l).length ∧ 1 ≤ (hd l).length ∧ 1 ≤ (tl l).length := by
  obtain ⟨h1, h2, h3⟩ := cons_hd_tl h hn
  have := congrArg List.length h1
  simp only [List.length_cons, List.length_append] at this
  exact ⟨by omega, vld_pos h2, vld_pos h3⟩
theorem one_is {l : List UInt8} (h : vld l = true) (hl : l.length ≤ 1) : l = [48] := by
  by_cases hn : l = [48]
  · exact hn
  · have := len_pair h hn; omega
theorem enc_firsts (n : Nat) : ∀ {l : List UInt8}, vld l = true → l.length ≤ 2 * n + 1 → enc (firsts n l) = l ∧ after n l = [48] := by
  induction n with
  | zero => intro l h hl; rw [one_is h (by omega)]; exact ⟨rfl, rfl⟩
  | succ n ih =>
    intro l h hl
    by_cases h0 : l = [48]
    · subst h0; rw [firsts_nil, after_nil]; exact ⟨rfl, rfl⟩
    · have hp := len_pair h h0
      obtain ⟨h1, h2⟩ := ih (vld_hd h).2 (by omega)
      simp only [firsts, after, if_neg h0, enc, h1, h2]
      exact ⟨(cons_hd_tl h h0).1, trivial⟩
theorem firsts_more {n : Nat} (k : Nat) {l : List UInt8} (h : vld l = true) (hl : l.length ≤ 2 * n + 1) : firsts (n + k) l = firsts n l := by
  rw [firsts_add, (enc_firsts n h hl).2, firsts_nil, List.append_nil]

/-- the elements of a tree -/
def itemsOf (l : List UInt8) : List (List UInt8) := firsts (l.length / 2) l
theorem items_enc {l : List UInt8} (h : vld l = true) : enc (itemsOf l) = l := (enc_firsts (l.length / 2) h (by omega)).1
theorem items_valid {l : List UInt8} (h : vld l = true) : ∀ x, x ∈ itemsOf l → vld x = true := firsts_valid _ h
theorem items_nil : itemsOf [48] = [] := rfl
theorem items_cons {l : List UInt8} (h : vld l = true) (hn : l ≠ [48]) : itemsOf l = hd l :: itemsOf (tl l) := by
  have hp := len_pair h hn
  have ht := (vld_hd h).2
  unfold itemsOf
  obtain ⟨n, hn2⟩ : ∃ n, l.length / 2 = n + 1 := ⟨l.length / 2 - 1, by omega⟩
  rw [hn2]
  simp only [firsts, if_neg hn]
  have h1 : firsts n (tl l) = firsts ((tl l).length / 2) (tl l) := by
    have := firsts_more (n := (tl l).length / 2) (n - (tl l).length / 2) ht (by omega)
    rwa [show (tl l).length / 2 + (n - (tl l).length / 2) = n from by omega] at this
  rw [h1]
theorem items_len (n : Nat) : ∀ {l : List UInt8}, (firsts n l).length ≤ n := by
  induction n with
  | zero => intro l; simp [firsts]
  | succ n ih =>
    intro l
    by_cases h : l = [48]
    · subst h; rw [firsts_nil]; simp
    · simp only [firsts, if_neg h, List.length_cons]; have := ih (l := tl l); omega
theorem items_of_enc : ∀ {ls : List (List UInt8)}, (∀ l, l ∈ ls → vld l = true) → (enc ls).length ≤ 2000000 → itemsOf (enc ls) = ls
  | [], _, _ => rfl
  | l :: r, h, hz => by
    have h1 := h l (by simp)
    have h2 : ∀ x, x ∈ r → vld x = true := fun x hx => h x (by simp [hx])
    have hz2 : (enc r).length ≤ 2000000 := by simp only [enc, List.length_cons, List.length_append] at hz; omega
    have hv := vld_enc h hz
    have hp := hd_cons (a := l) (b := enc r) h1
    have hn : enc (l :: r) ≠ [48] := by simp [enc]
    rw [items_cons hv hn]
    show hd (49 :: (l ++ enc r)) :: itemsOf (tl (49 :: (l ++ enc r))) = _
    rw [hp.1, hp.2, items_of_enc h2 hz2]
end Go.Proofs.Ytmhoacnbmbhcjab.Pl

namespace Go.Proofs.Ytmhoacnbmbhcjab
open Go.RowKit Pl

theorem strsV_snoc (a : List (List UInt8)) (x : List UInt8) : strsV (a ++ [x]) = strsV a ++ [.string (S x)] := by simp [strsV]
theorem strsV_app (a b : List (List UInt8)) : strsV (a ++ b) = strsV a ++ strsV b := by simp [strsV]

/-! the reference -/
theorem byte_at {s : ByteArray} {pos : Nat} (hp : pos < s.size) (hv : vld (s.data.toList.drop pos) = true) :
    (s.data.toList.drop pos = [48] ∧ s[pos] = 48) ∨ (s.data.toList.drop pos ≠ [48] ∧ s[pos] = 49) := by
  have hl : pos < s.data.toList.length := by rw [len_eq]; exact hp
  have hd : s.data.toList.drop pos = s[pos] :: s.data.toList.drop (pos + 1) := drop_cons hl
  by_cases h0 : s.data.toList.drop pos = [48]
  · rw [h0] at hd; exact Or.inl ⟨h0, by injection hd with h1 _; exact h1.symm⟩
  · obtain ⟨e, _, h2, _⟩ := vld_pair hv h0
    rw [hd] at h2
    injection h2 with h3 _
    exact Or.inr ⟨h0, h3⟩

theorem own_keep {w w1 : World} {base n : Nat} {e : TypeId} {size : Nat} {v : Value} {xs : List Value} (h : w.ownsRow base e size v n xs) (hb : Below w.heap.size w w1) : w1.ownsRow base e size v n xs :=
  h.kept (row := none) ⟨hb.os, hb.tape, hb.output, hb.size, fun k hk _ => hb.block k hk⟩ (by cases v.ownBlock <;> simp)

theorem far_cell {w w3 : World} {B : Nat} {v : Value} {ob : Option Nat} {o : Obj} (hg : (w.alloc o).grownBy w3 ob) (hB : B < w.heap.size) (hne : some B ≠ ob) (h1 : w.cell? ⟨B, 0, none⟩ = some v) : w3.cell? ⟨B, 0, none⟩ = some v := by
  rw [hg.cell_far _ (by simp; omega) hne, World.cell?_alloc_past _ _ _ hB]; exact h1
theorem far_frozen {w w3 : World} {B : Nat} {b : Bool} {ob : Option Nat} {o : Obj} (hg : (w.alloc o).grownBy w3 ob) (hB : B < w.heap.size) (hne : some B ≠ ob) (h1 : w.frozen? ⟨B, 0, none⟩ = b) : w3.frozen? ⟨B, 0, none⟩ = b := by
  rw [hg.frozen_far _ (by simp; omega) hne, World.frozen?_of_block (w := w) (Below.heap_alloc w o B hB)]; exact h1

/-! the function inside Items: what it captured lies in the blocks B (the list) and B + 1 (the function itself) -/
end Go.Proofs.Ytmhoacnbmbhcjab

namespace Go.Proofs.Ytmhoacnbmbhcjab
open Go.RowKit Pl

theorem right_cases {x : Ins} {i n : Int} (h : right x i n = true) : reg x.a = true ∧
    ((x.op = 0 ∧ x.b = 0 ∧ x.c = 0 ∧ vld x.tree = true) ∨ ((x.op = 1 ∨ x.op = 3 ∨ x.op = 4) ∧ reg x.b = true ∧ x.c = 0 ∧ x.tree = []) ∨
     (x.op = 2 ∧ reg x.b = true ∧ reg x.c = true ∧ x.tree = []) ∨ (x.op = 5 ∧ x.c = 0 ∧ x.tree = [] ∧ -i ≤ x.b ∧ x.b ≤ n - i)) := by
  obtain ⟨op, a, b, c, t⟩ := x
  by_cases h0 : op = 0
  · subst h0; simp_all [right]
  by_cases h2 : op = 2
  · subst h2; simp_all [right]
  by_cases h1 : op = 1
  · subst h1; simp_all [right]
  by_cases h3 : op = 3
  · subst h3; simp_all [right]
  by_cases h4 : op = 4
  · subst h4; simp_all [right]
  by_cases h5 : op = 5
  · subst h5; simp_all [right]
  · simp [right, h0, h1, h2, h3, h4, h5] at h
theorem reg_nat {n : Int} (h : reg n = true) : ∃ k : Nat, n = (k : Int) ∧ k < 32 := by
  obtain ⟨h1, h2⟩ := reg_true h
  exact ⟨n.toNat, by omega, by omega⟩

theorem num_le {n k : Nat} (h : n ≤ k) : (num n).length ≤ 2 * k + 1 := by rw [num_len]; omega
theorem codeOf_len {x : Ins} {i n : Int} (h : right x i n = true) (hi0 : 0 ≤ i) (hi : i ≤ 4000) (hn : n ≤ 4000) : (codeOf x).length ≤ 9000 + x.tree.length := by
  obtain ⟨ha, hc⟩ := right_cases h
  have h1 := num_le (n := x.a.toNat) (k := 32) (by have := (reg_true ha).2; omega)
  unfold codeOf body
  rcases hc with ⟨ho, _⟩ | ⟨ho, hb, _⟩ | ⟨ho, hb, hc, _⟩ | ⟨ho, _, _, hb1, hb2⟩
  · have h2 := num_le (n := x.op.toNat) (k := 6) (by omega)
    rw [if_pos ho]; simp only [pr_len]; omega
  · have h2 := num_le (n := x.op.toNat) (k := 6) (by omega)
    have h3 := num_le (n := x.b.toNat) (k := 32) (by have := (reg_true hb).2; omega)
    rw [if_neg (by omega), if_neg (by omega), if_neg (by omega)]; simp only [pr_len]; omega
  · have h2 := num_le (n := x.op.toNat) (k := 6) (by omega)
    have h3 := num_le (n := x.b.toNat) (k := 32) (by have := (reg_true hb).2; omega)
    have h4 := num_le (n := x.c.toNat) (k := 32) (by have := (reg_true hc).2; omega)
    rw [if_neg (by omega), if_pos ho]; simp only [pr_len]; omega
  · have h2 := num_le (n := x.op.toNat) (k := 6) (by omega)
    have h3 := num_le (n := (-x.b).toNat) (k := 4000) (by omega)
    have h4 := num_le (n := x.b.toNat) (k := 4000) (by omega)
    rw [if_neg (by omega), if_neg (by omega), if_pos ho]
    split <;> simp only [pr_len, List.length_cons, List.length_nil] <;> omega
theorem enc_map_len {f : Ins → List UInt8} : ∀ {ps : List Ins}, (∀ x ∈ ps, (f x).length ≤ 9000 + x.tree.length) → (enc (ps.map f)).length ≤ 1 + ps.length * 9001 + trees ps := by
  intro ps
  induction ps with
  | nil => intro _; simp [enc]
  | cons x ps ih =>
    intro h
    have h1 := h x (by simp)
    have h2 := ih (fun y hy => h y (by simp [hy]))
    have h3 : trees (x :: ps) = x.tree.length + trees ps := by simp [trees]
    rw [List.map_cons, h3]
    simp only [enc, List.length_cons, List.length_append]
    omega
theorem AllR.mem {ps : List Ins} (h : AllR ps) (hm : ps.length ≤ 4000) : ∀ x ∈ ps, (codeOf x).length ≤ 9000 + x.tree.length := by
  intro x hx
  obtain ⟨k, hk, rfl⟩ := List.mem_iff_getElem.1 hx
  exact codeOf_len (h k _ (List.getElem?_eq_getElem hk)) (by omega) (by omega) (by omega)
def codes (ps : List Ins) : List (List UInt8) := ps.map codeOf
theorem codes_len (ps : List Ins) : (codes ps).length = ps.length := by simp [codes]
theorem codes_take {ps : List Ins} {k : Nat} {x : Ins} (h : ps[k]? = some x) : codes (ps.take (k + 1)) = codes (ps.take k) ++ [codeOf x] := by
  obtain ⟨hk, rfl⟩ := List.getElem?_eq_some_iff.1 h
  unfold codes
  rw [List.take_succ_eq_append_getElem hk, List.map_append]; rfl

end Go.Proofs.Ytmhoacnbmbhcjab

namespace Go.Proofs.Ytmhoacnbmbhcjab
open Go.RowKit Pl

def rstep (n : Int) (x : Ins) : Int := if x.op = 5 then max n (x.a + 1) else max (max (max n (x.a + 1)) (x.b + 1)) (x.c + 1)
def regsTo (ps : List Ins) (k : Nat) : Int := (ps.take k).foldl rstep 1
def regs (ps : List Ins) : Int := ps.foldl rstep 1
theorem max_if (a b : Int) : (if a < b then b else a) = max a b := by split <;> omega
theorem regsTo_succ {ps : List Ins} {k : Nat} {x : Ins} (h : ps[k]? = some x) : regsTo ps (k + 1) = rstep (regsTo ps k) x := by
  obtain ⟨hk, rfl⟩ := List.getElem?_eq_some_iff.1 h
  unfold regsTo
  rw [List.take_succ_eq_append_getElem hk, List.foldl_append]; rfl
theorem regsTo_all {ps : List Ins} {k : Nat} (h : ps.length ≤ k) : regsTo ps k = regs ps := by unfold regsTo regs; rw [List.take_of_length_le h]
theorem right_small {x : Ins} {i n : Int} (h : right x i n = true) (hi0 : 0 ≤ i) (hi : i ≤ 4000) (hn : n ≤ 4000) : (0 ≤ x.a ∧ x.a < 32) ∧ (-4000 ≤ x.b ∧ x.b ≤ 4000) ∧ (0 ≤ x.c ∧ x.c < 32) ∧ (x.op ≠ 5 → 0 ≤ x.b ∧ x.b < 32) := by
  obtain ⟨ha, hc⟩ := right_cases h
  have h1 := reg_true ha
  rcases hc with ⟨ho, hb, hc, _⟩ | ⟨ho, hb, hc, _⟩ | ⟨ho, hb, hc, _⟩ | ⟨ho, hc, _, hb1, hb2⟩
  · omega
  · have h2 := reg_true hb; omega
  · have h2 := reg_true hb; have h3 := reg_true hc; omega
  · omega

set_option maxHeartbeats 1600000 in
set_option maxRecDepth 100000 in
theorem Regs_some (w : World) (b off cap : Nat) (ps : List Ins) (hc : ProgAt w b off ps) (hm : ps.length ≤ 4000) (hr : AllR ps) :
    Calls Try.prog 18 #[.slice (some ⟨b, off, none⟩) ps.length cap] w fun e w' => e = .returned (.int .i64 (regs ps)) ∧ Below w.heap.size w w' := by
  have HR : Hid (∀ (k : Nat) (x : Ins), ps[k]? = some x → right x k ps.length = true) := Lib.hid hr
  generalize hnn : ps.length = n at *
  have HN := Lib.hid hnn; have HC := Lib.hid hc
  clear hc hr hnn
  go_enter Try.func18, Try.ntmps18
  go_wp2
  go_loopw [3, 4] (fun v i wr => ∃ k : Nat, k ≤ n ∧ i = .int .i64 k ∧ (∃ r : Int, v = .int .i64 r ∧ -100000 ≤ r ∧ r ≤ 100000 ∧ Hid (r = regsTo ps k)) ∧ ∃ q, wr = w.drewN q) (fun _ i _ => n - (intOf i).toNat)
  case atStart => exact ⟨0, Nat.zero_le _, rfl, ⟨1, rfl, by omega, by omega, Lib.hid rfl⟩, 0, rfl⟩
  case round =>
    obtain ⟨k, hk, rfl, ⟨r, rfl, hr0, hr1, hrr⟩, q, rfl⟩ := hrel
    by_cases hlt : k < n
    · obtain ⟨x, hx⟩ := get_at (ps := ps) (k := k) (by rw [HN.out]; exact hlt)
      obtain ⟨c0, c1, c2, c3, c4⟩ := HC.out.2 k x hx
      obtain ⟨⟨a0, a1⟩, ⟨b0, b1⟩, ⟨d0, d1⟩, _⟩ := right_small (HR.out k x hx) (by omega) (by omega) (by omega)
      have HT := Lib.hid (regsTo_succ hx)
      clear hx c4
      by_cases h5 : x.op = 5
      · have h6 : (x.op != 5) = false := by rw [h5]; rfl
        have HX : Hid (max r (x.a + 1) = regsTo ps (k + 1)) := Lib.hid (by rw [HT.out, ← hrr.out]; unfold rstep; rw [if_pos h5])
        rw [h5] at c0
        clear h6 h5
        go_wp2
        go_roundw
        case rel => exact ⟨k + 1, by omega, by go_num, ⟨_, rfl, by omega, by omega, HX⟩, _, rfl⟩
        case measure => simp [intOf]; omega
      · have h6 : (x.op != 5) = true := by rw [bne_iff_ne]; exact h5
        have HX : Hid (max (max (max r (x.a + 1)) (x.b + 1)) (x.c + 1) = regsTo ps (k + 1)) := Lib.hid (by rw [HT.out, ← hrr.out]; unfold rstep; rw [if_neg h5])
        clear h5
        go_wp2
        go_quiet (fail)
        go_wp2
        go_roundw
        case rel => exact ⟨k + 1, by omega, by go_num, ⟨_, rfl, by rw [max_if, max_if]; omega, by rw [max_if, max_if]; omega, Lib.hid (by rw [max_if, max_if]; exact HX.out)⟩, _, rfl⟩
        case measure => simp [intOf]; omega
    · have HT := Lib.hid (regsTo_all (ps := ps) (k := k) (by rw [HN.out]; omega))
      have HU := Lib.hid (hrr.out.trans HT.out)
      go_wp2
      go_ret
      exact ⟨ret_int HU.out, bdrewN (Below.refl _ _) _⟩
set_option maxHeartbeats 800000 in
set_option maxRecDepth 100000 in
theorem Regs_none (w : World) (a : Option Addr) (cap : Nat) :
    Calls Try.prog 18 #[.slice a 0 cap] w fun e w' => e = .returned (.int .i64 1) ∧ Below w.heap.size w w' := by
  go_enter Try.func18, Try.ntmps18
  go_wp2
  go_loop [3, 4] (fun v i => v = .int .i64 1 ∧ i = .int .i64 0) (fun _ _ => 0)
  case atStart => exact ⟨rfl, rfl⟩
  case round =>
    obtain ⟨rfl, rfl⟩ := hrel
    go_wp2
    go_ret
    exact ⟨rfl, Below.refl _ _⟩
theorem Regs_arg (w : World) (v : Value) (ps : List Ins) (h : ArgP w v ps) (hv : PValid ps) :
    Calls Try.prog 18 #[v] w fun e w' => e = .returned (.int .i64 (regs ps)) ∧ Below w.heap.size w w' := by
  rcases h with ⟨rfl, h⟩ | ⟨h0, b, off, cap, rfl, hc⟩
  · obtain ⟨a, cap, rfl⟩ := empty_arg h
    exact Regs_none w a cap
  · exact Regs_some w b off cap ps hc hv.1 hv.2.2
end Go.Proofs.Ytmhoacnbmbhcjab
