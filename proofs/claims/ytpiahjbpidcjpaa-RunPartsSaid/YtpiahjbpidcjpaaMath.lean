/- Plain facts on trees as lists of bytes: no program. By an AI agent. -/
import Derived.Below
namespace Go.Proofs.Ytpiahjbpidcjpaa.Pl

/-- how many bytes the first m trees of l take -/
def fs : List UInt8 → Nat → Option Nat
  | [], m => if m = 0 then some 0 else none
  | c :: l, m => if m = 0 then some 0 else if c = 48 then (fs l (m - 1)).map (· + 1) else if c = 49 then (fs l (m + 1)).map (· + 1) else none

theorem fs_zero (l : List UInt8) : fs l 0 = some 0 := by cases l <;> simp [fs]
theorem fs_nil (m : Nat) (h : m ≠ 0) : fs [] m = none := by simp [fs, h]
theorem fs_48 (l : List UInt8) (m : Nat) : fs (48 :: l) (m + 1) = (fs l m).map (· + 1) := by simp [fs]
theorem fs_49 (l : List UInt8) (m : Nat) : fs (49 :: l) (m + 1) = (fs l (m + 2)).map (· + 1) := by simp [fs]
theorem fs_bad (c : UInt8) (l : List UInt8) (m : Nat) (h0 : c ≠ 48) (h1 : c ≠ 49) : fs (c :: l) (m + 1) = none := by simp [fs, h0, h1]

theorem fs_le {l : List UInt8} : ∀ {m e : Nat}, fs l m = some e → e ≤ l.length := by
  induction l with
  | nil => intro m e h; by_cases hm : m = 0 <;> simp [fs, hm] at h; omega
  | cons c l ih =>
    intro m e h
    by_cases hm : m = 0
    · subst hm; simp [fs] at h; omega
    · simp only [fs, if_neg hm] at h
      by_cases h0 : c = 48
      · rw [if_pos h0] at h
        obtain ⟨e', he', rfl⟩ := Option.map_eq_some_iff.1 h
        have := ih he'; simp; omega
      · rw [if_neg h0] at h
        by_cases h1 : c = 49
        · rw [if_pos h1] at h
          obtain ⟨e', he', rfl⟩ := Option.map_eq_some_iff.1 h
          have := ih he'; simp; omega
        · rw [if_neg h1] at h; cases h

theorem fs_ge {l : List UInt8} : ∀ {m e : Nat}, fs l m = some e → m ≤ e := by
  induction l with
  | nil => intro m e h; by_cases hm : m = 0 <;> simp [fs, hm] at h; omega
  | cons c l ih =>
    intro m e h
    by_cases hm : m = 0
    · omega
    · simp only [fs, if_neg hm] at h
      by_cases h0 : c = 48
      · rw [if_pos h0] at h
        obtain ⟨e', he', rfl⟩ := Option.map_eq_some_iff.1 h
        have := ih he'; omega
      · rw [if_neg h0] at h
        by_cases h1 : c = 49
        · rw [if_pos h1] at h
          obtain ⟨e', he', rfl⟩ := Option.map_eq_some_iff.1 h
          have := ih he'; omega
        · rw [if_neg h1] at h; cases h

theorem fs_add (l : List UInt8) : ∀ (a b : Nat), fs l (a + b) = (fs l a).bind fun e => (fs (l.drop e) b).map (e + ·) := by
  induction l with
  | nil =>
    intro a b
    by_cases ha : a = 0
    · subst ha; by_cases hb : b = 0 <;> simp [fs, hb]
    · simp [fs, ha]
  | cons c l ih =>
    intro a b
    by_cases ha : a = 0
    · subst ha
      rw [Nat.zero_add, fs_zero]
      show fs (c :: l) b = (fs (List.drop 0 (c :: l)) b).map (0 + ·)
      rw [List.drop_zero]
      cases fs (c :: l) b <;> simp
    · obtain ⟨a', rfl⟩ : ∃ a', a = a' + 1 := ⟨a - 1, by omega⟩
      have e1 : a' + 1 + b = (a' + b) + 1 := by omega
      rw [e1]
      by_cases h0 : c = 48
      · subst h0
        rw [fs_48, fs_48, ih a' b]
        cases hx : fs l a' with
        | none => rfl
        | some e =>
          simp only [Option.bind_some, Option.map_some, List.drop_succ_cons, Option.map_map]
          congr 1; funext x; simp; omega
      · by_cases h1 : c = 49
        · subst h1
          rw [fs_49, fs_49, show a' + b + 2 = (a' + 2) + b from by omega, ih (a' + 2) b]
          cases hx : fs l (a' + 2) with
          | none => rfl
          | some e =>
            simp only [Option.bind_some, Option.map_some, List.drop_succ_cons, Option.map_map]
            congr 1; funext x; simp; omega
        · rw [fs_bad c l _ h0 h1, fs_bad c l _ h0 h1]; rfl

theorem fs_append {l : List UInt8} (r : List UInt8) : ∀ {m e : Nat}, fs l m = some e → fs (l ++ r) m = some e := by
  induction l with
  | nil => intro m e h; by_cases hm : m = 0 <;> simp [fs, hm] at h; subst hm; subst h; exact fs_zero _
  | cons c l ih =>
    intro m e h
    by_cases hm : m = 0
    · subst hm; rw [fs_zero] at h ⊢; exact h
    · rw [List.cons_append]
      simp only [fs, if_neg hm] at h ⊢
      by_cases h0 : c = 48
      · rw [if_pos h0] at h ⊢
        obtain ⟨e', he', rfl⟩ := Option.map_eq_some_iff.1 h
        rw [ih he']; rfl
      · rw [if_neg h0] at h ⊢
        by_cases h1 : c = 49
        · rw [if_pos h1] at h ⊢
          obtain ⟨e', he', rfl⟩ := Option.map_eq_some_iff.1 h
          rw [ih he']; rfl
        · rw [if_neg h1] at h; cases h

theorem fs_take {l : List UInt8} : ∀ {m e : Nat}, fs l m = some e → fs (l.take e) m = some e := by
  induction l with
  | nil => intro m e h; simpa using h
  | cons c l ih =>
    intro m e h
    by_cases hm : m = 0
    · subst hm; rw [fs_zero] at h ⊢; exact h
    · simp only [fs, if_neg hm] at h
      by_cases h0 : c = 48
      · rw [if_pos h0] at h
        obtain ⟨e', he', rfl⟩ := Option.map_eq_some_iff.1 h
        simp only [List.take_succ_cons, fs, if_neg hm, if_pos h0]
        rw [ih he']; rfl
      · rw [if_neg h0] at h
        by_cases h1 : c = 49
        · rw [if_pos h1] at h
          obtain ⟨e', he', rfl⟩ := Option.map_eq_some_iff.1 h
          simp only [List.take_succ_cons, fs, if_neg hm, if_neg h0, if_pos h1]
          rw [ih he']; rfl
        · rw [if_neg h1] at h; cases h

/-- the pairs: as many ones, and m more zeros -/
theorem fs_count {l : List UInt8} : ∀ {m e : Nat}, fs l m = some e → e = 2 * (l.take e).count 49 + m := by
  induction l with
  | nil => intro m e h; by_cases hm : m = 0 <;> simp [fs, hm] at h; subst h; simp [hm]
  | cons c l ih =>
    intro m e h
    by_cases hm : m = 0
    · subst hm; rw [fs_zero] at h; cases h; simp
    · simp only [fs, if_neg hm] at h
      by_cases h0 : c = 48
      · rw [if_pos h0] at h
        obtain ⟨e', he', rfl⟩ := Option.map_eq_some_iff.1 h
        have := ih he'
        subst h0
        simp only [List.take_succ_cons]
        rw [List.count_cons_of_ne (by decide)]
        omega
      · rw [if_neg h0] at h
        by_cases h1 : c = 49
        · rw [if_pos h1] at h
          obtain ⟨e', he', rfl⟩ := Option.map_eq_some_iff.1 h
          have := ih he'
          subst h1
          simp only [List.take_succ_cons]
          rw [List.count_cons_self]
          omega
        · rw [if_neg h1] at h; cases h

/-- fewer trees than the whole: they end earlier -/
theorem fs_sub {l : List UInt8} {a b e : Nat} (h : fs l (a + b) = some e) : ∃ e1 e2, fs l a = some e1 ∧ fs (l.drop e1) b = some e2 ∧ e = e1 + e2 := by
  rw [fs_add] at h
  obtain ⟨e1, h1, h2⟩ := Option.bind_eq_some_iff.1 h
  obtain ⟨e2, h3, h4⟩ := Option.map_eq_some_iff.1 h2
  exact ⟨e1, e2, h1, h3, h4.symm⟩

/-- the size of the tree with which l begins, or -1 -/
def sz (l : List UInt8) : Int := match fs l 1 with | some e => (e : Int) | none => -1
def vld (l : List UInt8) : Bool := decide (l.length ≤ 2000000) && decide (fs l 1 = some l.length)

theorem vld_iff {l : List UInt8} : vld l = true ↔ l.length ≤ 2000000 ∧ fs l 1 = some l.length := by simp [vld]
theorem sz_eq_len (l : List UInt8) : decide (sz l = (l.length : Int)) = decide (fs l 1 = some l.length) := by
  unfold sz
  cases h : fs l 1 with
  | none => simp
  | some e => simp only [Option.some.injEq, decide_eq_decide]; omega
theorem sz_some {l : List UInt8} {e : Nat} (h : fs l 1 = some e) : sz l = (e : Int) := by simp [sz, h]
theorem sz_ge (l : List UInt8) : -1 ≤ sz l ∧ sz l ≤ l.length := by
  unfold sz
  cases h : fs l 1 with
  | none => simp
  | some e => have := fs_le h; simp; omega

/-- the parts of a pair that is valid -/
theorem vld_pair {l : List UInt8} (h : vld l = true) (hn : l ≠ [48]) :
    ∃ e, fs (l.drop 1) 1 = some e ∧ l = 49 :: ((l.drop 1).take e ++ (l.drop 1).drop e) ∧ vld ((l.drop 1).take e) = true ∧ vld ((l.drop 1).drop e) = true ∧ e + 1 < l.length ∧ 1 ≤ e := by
  obtain ⟨hlen, hf⟩ := vld_iff.1 h
  cases l with
  | nil => simp [fs] at hf
  | cons c r =>
    by_cases h0 : c = 48
    · subst h0
      rw [fs_48, fs_zero] at hf
      simp at hf
      exact absurd (by rw [hf]) hn
    · by_cases h1 : c = 49
      · subst h1
        rw [fs_49] at hf
        obtain ⟨e', he', hx⟩ := Option.map_eq_some_iff.1 hf
        obtain ⟨e1, e2, g1, g2, g3⟩ := fs_sub (a := 1) (b := 1) he'
        have hle := fs_le g1
        have hge1 := fs_ge g1
        have hge2 := fs_ge g2
        simp only [List.length_cons] at hx hlen ⊢
        refine ⟨e1, g1, by simp, ?_, ?_, by omega, by omega⟩
        · refine vld_iff.2 ⟨by simp; omega, ?_⟩
          have := fs_take g1
          rw [List.drop_one, List.tail_cons, List.length_take, Nat.min_eq_left hle]
          exact this
        · refine vld_iff.2 ⟨by simp; omega, ?_⟩
          rw [List.drop_one, List.tail_cons]
          rw [g2, List.length_drop]
          congr 1; omega
      · rw [fs_bad c r 0 h0 h1] at hf; cases hf

/-- a pair of two valid trees -/
theorem fs_cons {a b : List UInt8} (ha : vld a = true) (hb : vld b = true) : fs (49 :: (a ++ b)) 1 = some (1 + a.length + b.length) := by
  obtain ⟨_, ha⟩ := vld_iff.1 ha
  obtain ⟨_, hb⟩ := vld_iff.1 hb
  rw [fs_49, show 0 + 2 = 1 + 1 from rfl, fs_add, fs_append b ha]
  simp only [Option.bind_some, List.drop_left, hb, Option.map_some]
  congr 1; omega
theorem vld_cons {a b : List UInt8} (ha : vld a = true) (hb : vld b = true) (h : 1 + a.length + b.length ≤ 2000000) : vld (49 :: (a ++ b)) = true :=
  vld_iff.2 ⟨by simp; omega, by rw [fs_cons ha hb]; simp; omega⟩

def hd (l : List UInt8) : List UInt8 := if l = [48] then [48] else (l.drop 1).take (sz (l.drop 1)).toNat
def tl (l : List UInt8) : List UInt8 := if l = [48] then [48] else (l.drop 1).drop (sz (l.drop 1)).toNat

theorem hd_cons {a b : List UInt8} (ha : vld a = true) : hd (49 :: (a ++ b)) = a ∧ tl (49 :: (a ++ b)) = b := by
  obtain ⟨_, hf⟩ := vld_iff.1 ha
  have h1 : sz (List.drop 1 (49 :: (a ++ b))) = (a.length : Int) := sz_some (by simpa using fs_append b hf)
  unfold hd tl
  rw [h1]
  simp
theorem cons_hd_tl {l : List UInt8} (h : vld l = true) (hn : l ≠ [48]) : 49 :: (hd l ++ tl l) = l ∧ vld (hd l) = true ∧ vld (tl l) = true := by
  obtain ⟨e, g1, g2, g3, g4, _, _⟩ := vld_pair h hn
  have h1 : sz (l.drop 1) = (e : Int) := sz_some g1
  unfold hd tl
  rw [if_neg hn, if_neg hn, h1]
  exact ⟨g2.symm, g3, g4⟩
theorem vld_hd {l : List UInt8} (h : vld l = true) : vld (hd l) = true ∧ vld (tl l) = true := by
  by_cases hn : l = [48]
  · subst hn; decide
  · exact (cons_hd_tl h hn).2

/-- P1.2 -/
theorem vld_more {l more : List UInt8} (h : vld l = true) (hm : more ≠ []) : vld (l ++ more) = false := by
  obtain ⟨_, hf⟩ := vld_iff.1 h
  cases hc : vld (l ++ more) with
  | false => rfl
  | true =>
  obtain ⟨_, hg⟩ := vld_iff.1 hc
  rw [fs_append more hf, List.length_append] at hg
  have := List.length_pos_iff.2 hm
  have := Option.some.inj hg
  omega
theorem vld_cut {l : List UInt8} {k : Nat} (h : vld l = true) (hk : k < l.length) : vld (l.take k) = false := by
  cases hc : vld (l.take k) with
  | false => rfl
  | true =>
  have hne : l.drop k ≠ [] := by
    intro e
    have := congrArg List.length e
    simp at this; omega
  have := vld_more hc hne
  rw [List.take_append_drop] at this
  rw [h] at this; cases this
def ones (l : List UInt8) : Nat := l.count 49
theorem vld_count {l : List UInt8} (h : vld l = true) : l.length = 2 * ones l + 1 := by
  unfold ones
  obtain ⟨_, hf⟩ := vld_iff.1 h
  have := fs_count hf
  rwa [List.take_length] at this

/-- the scan's relation: m trees are missing from place pos on -/
def Rel (L : List UInt8) (pos m : Nat) : Prop := fs L 1 = (fs (L.drop pos) m).map (pos + ·)
theorem Rel.start (L : List UInt8) : Rel L 0 1 := by unfold Rel; cases h : fs L 1 <;> simp [h]
theorem drop_cons {L : List UInt8} {pos : Nat} (h : pos < L.length) : L.drop pos = L[pos] :: L.drop (pos + 1) := List.drop_eq_getElem_cons h
theorem Rel.zero {L : List UInt8} {pos m : Nat} (h : Rel L pos (m + 1)) (hp : pos < L.length) (hc : L[pos] = 48) : Rel L (pos + 1) m := by
  unfold Rel at *
  rw [h, drop_cons hp, hc, fs_48]
  cases fs (L.drop (pos + 1)) m <;> simp; omega
theorem Rel.one {L : List UInt8} {pos m : Nat} (h : Rel L pos (m + 1)) (hp : pos < L.length) (hc : L[pos] = 49) : Rel L (pos + 1) (m + 2) := by
  unfold Rel at *
  rw [h, drop_cons hp, hc, fs_49]
  cases fs (L.drop (pos + 1)) (m + 2) <;> simp; omega
theorem Rel.done {L : List UInt8} {pos : Nat} (h : Rel L pos 0) : sz L = (pos : Int) := by
  unfold Rel at h
  rw [fs_zero] at h
  exact sz_some h
theorem sz_none {L : List UInt8} (h : fs L 1 = none) : sz L = -1 := by simp [sz, h]
theorem Rel.bad {L : List UInt8} {pos m : Nat} (h : Rel L pos (m + 1)) (hp : pos < L.length) (h0 : L[pos] ≠ 48) (h1 : L[pos] ≠ 49) : sz L = -1 := by
  unfold Rel at h
  rw [drop_cons hp, fs_bad _ _ _ h0 h1] at h
  exact sz_none h
theorem Rel.out {L : List UInt8} {pos m : Nat} (h : Rel L pos (m + 1)) (hp : L.length ≤ pos) : sz L = -1 := by
  unfold Rel at h
  rw [List.drop_of_length_le hp, fs_nil _ (by omega)] at h
  exact sz_none h

/-- a list of '10's, up to a last byte -/
def alt : List UInt8 → Bool
  | a :: b :: l => a == 49 && b == 48 && alt l
  | _ => true
def val (l : List UInt8) : Int := if alt l then ((l.length / 2 : Nat) : Int) else -1
def num (n : Nat) : List UInt8 := (List.replicate n [49, 48]).flatten ++ [48]
theorem num_succ (n : Nat) : num (n + 1) = 49 :: 48 :: num n := by simp [num, List.replicate_succ]
theorem num_len (n : Nat) : (num n).length = 2 * n + 1 := by
  induction n with
  | zero => rfl
  | succ n ih => rw [num_succ]; simp only [List.length_cons, ih]; omega
theorem num_fs (n : Nat) : fs (num n) 1 = some (2 * n + 1) := by
  induction n with
  | zero => rfl
  | succ n ih => rw [num_succ, fs_49, fs_48, ih]; simp; omega
theorem num_vld {n : Nat} (h : n ≤ 999999) : vld (num n) = true := vld_iff.2 ⟨by rw [num_len]; omega, by rw [num_fs, num_len]⟩
theorem num_alt (n : Nat) : alt (num n) = true := by
  induction n with
  | zero => rfl
  | succ n ih => rw [num_succ]; simp [alt, ih]
theorem num_val (n : Nat) : val (num n) = (n : Int) := by
  unfold val; rw [num_alt, if_pos rfl, num_len]; congr 1; omega
theorem alt_short {l : List UInt8} (h : l.length ≤ 1) : alt l = true := by
  match l, h with
  | [], _ => rfl
  | [_], _ => rfl
end Go.Proofs.Ytpiahjbpidcjpaa.Pl
