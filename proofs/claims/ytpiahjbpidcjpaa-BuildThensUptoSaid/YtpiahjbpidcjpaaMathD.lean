/- Plain facts on the elements of a tree: no program. By an AI agent. -/
import Derived.Test.YtpiahjbpidcjpaaMathB
namespace Go.Proofs.Ytpiahjbpidcjpaa.Pl

/-- the first n elements of a list, and what is behind them -/
def firsts : Nat → List UInt8 → List (List UInt8)
  | 0, _ => []
  | n + 1, l => if l = [48] then [] else hd l :: firsts n (tl l)
def after : Nat → List UInt8 → List UInt8
  | 0, l => l
  | n + 1, l => if l = [48] then l else after n (tl l)
theorem firsts_nil (n : Nat) : firsts n [48] = [] := by cases n <;> simp [firsts]
theorem after_nil (n : Nat) : after n [48] = [48] := by cases n <;> simp [after]
theorem firsts_one {l : List UInt8} (h : l ≠ [48]) : firsts 1 l = [hd l] := by simp [firsts, h]
theorem after_one {l : List UInt8} (h : l ≠ [48]) : after 1 l = tl l := by simp [after, h]
theorem firsts_add (a : Nat) : ∀ (b : Nat) (l : List UInt8), firsts (a + b) l = firsts a l ++ firsts b (after a l) := by
  induction a with
  | zero => intro b l; rw [Nat.zero_add]; rfl
  | succ a ih =>
    intro b l
    rw [show a + 1 + b = (a + b) + 1 from by omega]
    by_cases h : l = [48]
    · subst h; rw [firsts_nil, firsts_nil, after_nil, firsts_nil]; rfl
    · simp only [firsts, after, if_neg h, ih b (tl l), List.cons_append]
theorem after_add (a : Nat) : ∀ (b : Nat) (l : List UInt8), after (a + b) l = after b (after a l) := by
  induction a with
  | zero => intro b l; rw [Nat.zero_add]; rfl
  | succ a ih =>
    intro b l
    rw [show a + 1 + b = (a + b) + 1 from by omega]
    by_cases h : l = [48]
    · subst h; rw [after_nil, after_nil, after_nil]
    · simp only [after, if_neg h, ih b (tl l)]
theorem vld_after (n : Nat) : ∀ {l : List UInt8}, vld l = true → vld (after n l) = true := by
  induction n with
  | zero => intro l h; exact h
  | succ n ih =>
    intro l h
    by_cases h0 : l = [48]
    · subst h0; rw [after_nil]; exact h
    · simp only [after, if_neg h0]; exact ih (vld_hd h).2
theorem firsts_valid (n : Nat) : ∀ {l : List UInt8}, vld l = true → ∀ x, x ∈ firsts n l → vld x = true := by
  induction n with
  | zero => intro l _ x hx; simp [firsts] at hx
  | succ n ih =>
    intro l h x hx
    by_cases h0 : l = [48]
    · subst h0; rw [firsts_nil] at hx; simp at hx
    · simp only [firsts, if_neg h0] at hx
      rcases List.mem_cons.1 hx with rfl | hx
      · exact (vld_hd h).1
      · exact ih (vld_hd h).2 x hx
theorem vld_pos {l : List UInt8} (h : vld l = true) : 1 ≤ l.length := fs_ge (vld_iff.1 h).2
theorem len_pair {l : List UInt8} (h : vld l = true) (hn : l ≠ [48]) : l.length = 1 + (hd l).length + (tl l).length ∧ 1 ≤ (hd l).length ∧ 1 ≤ (tl l).length := by
  obtain ⟨h1, h2, h3⟩ := cons_hd_tl h hn
  have := congrArg List.length h1
  simp only [List.length_cons, List.length_append] at this
  exact ⟨by omega, vld_pos h2, vld_pos h3⟩
theorem one_is {l : List UInt8} (h : vld l = true) (hl : l.length ≤ 1) : l = [48] := by
  by_cases hn : l = [48]
  · exact hn
  · have := len_pair h hn; omega
theorem enc_firsts (n : Nat) : ∀ {l : List UInt8}, vld l = true → l.length ≤ 2 * n + 1 → enc (firsts n l) = l ∧ after n l = [48] := by
  induction n with
  | zero => intro l h hl; rw [one_is h (by omega)]; exact ⟨rfl, rfl⟩
  | succ n ih =>
    intro l h hl
    by_cases h0 : l = [48]
    · subst h0; rw [firsts_nil, after_nil]; exact ⟨rfl, rfl⟩
    · have hp := len_pair h h0
      obtain ⟨h1, h2⟩ := ih (vld_hd h).2 (by omega)
      simp only [firsts, after, if_neg h0, enc, h1, h2]
      exact ⟨(cons_hd_tl h h0).1, trivial⟩
theorem firsts_more {n : Nat} (k : Nat) {l : List UInt8} (h : vld l = true) (hl : l.length ≤ 2 * n + 1) : firsts (n + k) l = firsts n l := by
  rw [firsts_add, (enc_firsts n h hl).2, firsts_nil, List.append_nil]

/-- the elements of a tree -/
def itemsOf (l : List UInt8) : List (List UInt8) := firsts (l.length / 2) l
theorem items_enc {l : List UInt8} (h : vld l = true) : enc (itemsOf l) = l := (enc_firsts (l.length / 2) h (by omega)).1
theorem items_valid {l : List UInt8} (h : vld l = true) : ∀ x, x ∈ itemsOf l → vld x = true := firsts_valid _ h
theorem items_nil : itemsOf [48] = [] := rfl
theorem items_cons {l : List UInt8} (h : vld l = true) (hn : l ≠ [48]) : itemsOf l = hd l :: itemsOf (tl l) := by
  have hp := len_pair h hn
  have ht := (vld_hd h).2
  unfold itemsOf
  obtain ⟨n, hn2⟩ : ∃ n, l.length / 2 = n + 1 := ⟨l.length / 2 - 1, by omega⟩
  rw [hn2]
  simp only [firsts, if_neg hn]
  have h1 : firsts n (tl l) = firsts ((tl l).length / 2) (tl l) := by
    have := firsts_more (n := (tl l).length / 2) (n - (tl l).length / 2) ht (by omega)
    rwa [show (tl l).length / 2 + (n - (tl l).length / 2) = n from by omega] at this
  rw [h1]
theorem items_len (n : Nat) : ∀ {l : List UInt8}, (firsts n l).length ≤ n := by
  induction n with
  | zero => intro l; simp [firsts]
  | succ n ih =>
    intro l
    by_cases h : l = [48]
    · subst h; rw [firsts_nil]; simp
    · simp only [firsts, if_neg h, List.length_cons]; have := ih (l := tl l); omega
theorem items_of_enc : ∀ {ls : List (List UInt8)}, (∀ l, l ∈ ls → vld l = true) → (enc ls).length ≤ 2000000 → itemsOf (enc ls) = ls
  | [], _, _ => rfl
  | l :: r, h, hz => by
    have h1 := h l (by simp)
    have h2 : ∀ x, x ∈ r → vld x = true := fun x hx => h x (by simp [hx])
    have hz2 : (enc r).length ≤ 2000000 := by simp only [enc, List.length_cons, List.length_append] at hz; omega
    have hv := vld_enc h hz
    have hp := hd_cons (a := l) (b := enc r) h1
    have hn : enc (l :: r) ≠ [48] := by simp [enc]
    rw [items_cons hv hn]
    show hd (49 :: (l ++ enc r)) :: itemsOf (tl (49 :: (l ++ enc r))) = _
    rw [hp.1, hp.2, items_of_enc h2 hz2]
end Go.Proofs.Ytpiahjbpidcjpaa.Pl
