/- Plain facts on depths: no program. By an AI agent. -/
import Derived.Test.YtkodkimdhalpcaaMath
namespace Go.Proofs.Ytkodkimdhalpcaa.Pl

/-- the depths of the trees of l, the first one first -/
def ds : List UInt8 → List Nat
  | [] => []
  | c :: l => if c = 48 then 0 :: ds l else match ds l with
    | a :: b :: r => (1 + max a b) :: r
    | _ => []
theorem ds_48 (l : List UInt8) : ds (48 :: l) = 0 :: ds l := by simp [ds]
theorem ds_49 {l : List UInt8} {a b : Nat} {r : List Nat} (h : ds l = a :: b :: r) : ds (49 :: l) = (1 + max a b) :: r := by simp [ds, h]

theorem fs_whole {c : UInt8} {l : List UInt8} {m : Nat} (h : fs (c :: l) m = some (c :: l).length) :
    (c = 48 ∧ ∃ k, m = k + 1 ∧ fs l k = some l.length) ∨ (c = 49 ∧ ∃ k, m = k + 1 ∧ fs l (k + 2) = some l.length) := by
  cases m with
  | zero => rw [fs_zero] at h; simp at h
  | succ k =>
    by_cases c0 : c = 48
    · subst c0
      rw [fs_48] at h
      obtain ⟨x, hx, hx2⟩ := Option.map_eq_some_iff.1 h
      simp only [List.length_cons] at hx2
      exact Or.inl ⟨rfl, k, rfl, by rw [hx]; congr 1; omega⟩
    · by_cases c1 : c = 49
      · subst c1
        rw [fs_49] at h
        obtain ⟨x, hx, hx2⟩ := Option.map_eq_some_iff.1 h
        simp only [List.length_cons] at hx2
        exact Or.inr ⟨rfl, k, rfl, by rw [hx]; congr 1; omega⟩
      · rw [fs_bad _ _ _ c0 c1] at h; cases h

theorem two_of {l : List Nat} {k : Nat} (h : l.length = k + 2) : ∃ a b r, l = a :: b :: r ∧ r.length = k := by
  match l, h with
  | a :: b :: r, h => exact ⟨a, b, r, rfl, by simp only [List.length_cons] at h; omega⟩

theorem ds_len {l : List UInt8} : ∀ {m : Nat}, fs l m = some l.length → (ds l).length = m := by
  induction l with
  | nil => intro m h; by_cases hm : m = 0 <;> simp [fs, hm] at h; simp [ds, hm]
  | cons c l ih =>
    intro m h
    rcases fs_whole h with ⟨rfl, k, rfl, hk⟩ | ⟨rfl, k, rfl, hk⟩
    · rw [ds_48, List.length_cons, ih hk]
    · obtain ⟨a, b, r, hr, hl⟩ := two_of (ih hk)
      rw [ds_49 hr, List.length_cons, hl]
theorem ds_app {l r : List UInt8} : ∀ {m : Nat}, fs l m = some l.length → ds (l ++ r) = ds l ++ ds r := by
  induction l with
  | nil => intro m _; rfl
  | cons c l ih =>
    intro m h
    rw [List.cons_append]
    rcases fs_whole h with ⟨rfl, k, rfl, hk⟩ | ⟨rfl, k, rfl, hk⟩
    · rw [ds_48, ds_48, ih hk]; rfl
    · obtain ⟨a, b, q, hr, _⟩ := two_of (ds_len hk)
      have h2 : ds (l ++ r) = a :: b :: (q ++ ds r) := by rw [ih hk, hr]; rfl
      rw [ds_49 h2, ds_49 hr]; rfl
theorem ds_le {l : List UInt8} : ∀ d, d ∈ ds l → d ≤ l.length := by
  induction l with
  | nil => intro d h; simp [ds] at h
  | cons c l ih =>
    intro d h
    by_cases c0 : c = 48
    · subst c0
      rw [ds_48] at h
      rcases List.mem_cons.1 h with rfl | h
      · simp
      · have := ih d h; simp; omega
    · simp only [ds, if_neg c0] at h
      split at h
      · rename_i a b r hr
        have ha := ih a (by rw [hr]; simp)
        have hb := ih b (by rw [hr]; simp)
        rcases List.mem_cons.1 h with rfl | h
        · simp only [List.length_cons]; omega
        · have := ih d (by rw [hr]; simp [h]); simp only [List.length_cons]; omega
      · simp at h

def dep (l : List UInt8) : Nat := (ds l).headD 0
theorem ds_one {l : List UInt8} (h : fs l 1 = some l.length) : ds l = [dep l] := by
  have := ds_len h
  match hd : ds l, this with
  | [d], _ => simp [dep, hd]
theorem dep_le {l : List UInt8} (h : fs l 1 = some l.length) : dep l ≤ l.length := ds_le _ (by rw [ds_one h]; simp)
theorem dep_cons {a b : List UInt8} (ha : vld a = true) (hb : vld b = true) : dep (49 :: (a ++ b)) = 1 + max (dep a) (dep b) := by
  have h1 := (vld_iff.1 ha).2
  have h2 := (vld_iff.1 hb).2
  have h3 : ds (a ++ b) = dep a :: dep b :: [] := by rw [ds_app h1, ds_one h1, ds_one h2]; rfl
  have h4 := ds_49 h3
  unfold dep at *
  rw [h4]; rfl

/-- the greatest level that is reached, from the levels of trees to come and their depths -/
def mx : List Nat → List Nat → Nat
  | a :: ls, d :: dd => max (a + d) (mx ls dd)
  | _, _ => 0
/-- the scan's relation -/
def DRel (L : List UInt8) (pos cur level : Nat) (tails : List Nat) : Prop :=
  (pos = L.length ∧ cur = dep L) ∨
  (fs (L.drop pos) (tails.length + 1) = some (L.drop pos).length ∧ dep L = max cur (mx (level :: tails) (ds (L.drop pos))) ∧ ∀ x, x ∈ level :: tails → x ≤ cur)

theorem DRel.start {L : List UInt8} (h : fs L 1 = some L.length) : DRel L 0 0 0 [] := by
  refine Or.inr ⟨by simpa using h, ?_, by simp⟩
  rw [List.drop_zero, ds_one h]
  simp [mx]
theorem DRel.done {L : List UInt8} {pos cur level : Nat} {tails : List Nat} (h : DRel L pos cur level tails) (hp : L.length ≤ pos) : cur = dep L := by
  rcases h with ⟨_, h⟩ | ⟨h, _⟩
  · exact h
  · rw [List.drop_of_length_le hp, fs_nil _ (by omega)] at h; cases h
theorem DRel.at {L : List UInt8} {pos cur level : Nat} {tails : List Nat} (h : DRel L pos cur level tails) (hp : pos < L.length) :
    ((L[pos] = 48 ∧ fs (L.drop (pos + 1)) tails.length = some (L.drop (pos + 1)).length ∧ dep L = max cur (mx (level :: tails) (0 :: ds (L.drop (pos + 1))))) ∨
     (L[pos] = 49 ∧ ∃ a b r, fs (L.drop (pos + 1)) (tails.length + 2) = some (L.drop (pos + 1)).length ∧ ds (L.drop (pos + 1)) = a :: b :: r ∧ dep L = max cur (mx (level :: tails) ((1 + max a b) :: r)))) ∧
    ∀ x, x ∈ level :: tails → x ≤ cur := by
  rcases h with ⟨h, _⟩ | ⟨h1, h2, h3⟩
  · omega
  · rw [drop_cons hp] at h1 h2
    refine ⟨?_, h3⟩
    rcases fs_whole h1 with ⟨hc, k, hk, hf⟩ | ⟨hc, k, hk, hf⟩
    · obtain rfl : k = tails.length := by omega
      rw [hc, ds_48] at h2
      exact Or.inl ⟨hc, hf, h2⟩
    · obtain rfl : k = tails.length := by omega
      obtain ⟨a, b, r, hr, _⟩ := two_of (ds_len hf)
      rw [hc, ds_49 hr] at h2
      exact Or.inr ⟨hc, a, b, r, hf, hr, h2⟩
theorem DRel.byte {L : List UInt8} {pos cur level : Nat} {tails : List Nat} (h : DRel L pos cur level tails) (hp : pos < L.length) : L[pos] = 48 ∨ L[pos] = 49 := by
  rcases (h.at hp).1 with ⟨h, _⟩ | ⟨h, _⟩
  · exact Or.inl h
  · exact Or.inr h
theorem DRel.one {L : List UInt8} {pos cur level : Nat} {tails : List Nat} (h : DRel L pos cur level tails) (hp : pos < L.length) (hc : L[pos] = 49) : DRel L (pos + 1) (max cur (level + 1)) (level + 1) ((level + 1) :: tails) := by
  obtain ⟨h1, h2⟩ := h.at hp
  rcases h1 with ⟨h1, _⟩ | ⟨_, a, b, r, hf, hr, hd⟩
  · rw [hc] at h1; cases h1
  · refine Or.inr ⟨hf, ?_, ?_⟩
    · rw [hr, hd]
      simp only [mx]
      omega
    · intro x hx
      rcases List.mem_cons.1 hx with rfl | hx
      · omega
      · rcases List.mem_cons.1 hx with rfl | hx
        · omega
        · have := h2 x (by simp [hx]); omega
theorem DRel.pop {L : List UInt8} {pos cur level t : Nat} {ts : List Nat} (h : DRel L pos cur level (t :: ts)) (hp : pos < L.length) (hc : L[pos] = 48) : DRel L (pos + 1) cur t ts := by
  obtain ⟨h1, h2⟩ := h.at hp
  rcases h1 with ⟨_, hf, hd⟩ | ⟨h1, _⟩
  · refine Or.inr ⟨hf, ?_, fun x hx => h2 x (by simp only [List.mem_cons] at hx ⊢; exact Or.inr hx)⟩
    have hl := h2 level (by simp)
    rw [hd]
    simp only [mx]
    omega
  · rw [hc] at h1; cases h1
theorem DRel.last {L : List UInt8} {pos cur level : Nat} (h : DRel L pos cur level []) (hp : pos < L.length) (hc : L[pos] = 48) : DRel L (pos + 1) cur level [] := by
  obtain ⟨h1, h2⟩ := h.at hp
  rcases h1 with ⟨_, hf, hd⟩ | ⟨h1, _⟩
  · rw [List.length_nil, fs_zero] at hf
    have hlen := Option.some.inj hf
    rw [List.length_drop] at hlen
    have hl := h2 level (by simp)
    refine Or.inl ⟨by omega, ?_⟩
    rw [hd]
    simp only [mx]
    omega
  · rw [hc] at h1; cases h1
end Go.Proofs.Ytkodkimdhalpcaa.Pl
