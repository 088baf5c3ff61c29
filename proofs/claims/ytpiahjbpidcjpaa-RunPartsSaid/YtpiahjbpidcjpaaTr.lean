/- Trees and their texts, and the runs of programs: plain mathematics. By an AI agent. -/
import Derived.Test.YtpiahjbpidcjpaaTwin
namespace Go.Proofs.Ytpiahjbpidcjpaa
open Go.RowKit Pl

inductive Tr where
  | nil
  | pair (a b : Tr)
/-- the text of a tree -/
def tx : Tr → List UInt8
  | .nil => [48]
  | .pair a b => 49 :: (tx a ++ tx b)
def txs (ts : List Tr) : List UInt8 := (ts.map tx).flatten
theorem txs_nil : txs [] = [] := rfl
theorem txs_cons (t : Tr) (ts : List Tr) : txs (t :: ts) = tx t ++ txs ts := rfl
theorem tx_pos (t : Tr) : 0 < (tx t).length := by cases t <;> simp [tx]
theorem tx_pair (a b : Tr) : (tx (.pair a b)).length = 1 + (tx a).length + (tx b).length := by simp [tx]; omega
theorem fs_tx : ∀ (t : Tr) (r : List UInt8) (m : Nat), fs (tx t ++ r) (m + 1) = (fs r m).map ((tx t).length + ·) := by
  intro t
  induction t with
  | nil => intro r m; show fs (48 :: r) (m + 1) = _; rw [fs_48]; cases fs r m <;> simp [tx, Nat.add_comm]
  | pair a b iha ihb =>
    intro r m
    show fs (49 :: (tx a ++ tx b ++ r)) (m + 1) = _
    rw [fs_49, List.append_assoc, iha, ihb, tx_pair]
    cases fs r m <;> simp; omega
theorem fs_txs (ts : List Tr) (r : List UInt8) (m : Nat) : fs (txs ts ++ r) (ts.length + m) = (fs r m).map ((txs ts).length + ·) := by
  induction ts with
  | nil => simp [txs]
  | cons t ts ih =>
    rw [txs_cons, List.append_assoc, List.length_cons, show ts.length + 1 + m = (ts.length + m) + 1 from by omega, fs_tx, ih]
    cases fs r m <;> simp; omega
theorem fs_all (ts : List Tr) : fs (txs ts) ts.length = some (txs ts).length := by
  have := fs_txs ts [] 0
  simpa [fs_zero] using this
/-- what consists of n trees does -/
theorem forest : ∀ (k : Nat) (l : List UInt8) (n : Nat), l.length ≤ k → fs l n = some l.length → ∃ ts : List Tr, ts.length = n ∧ txs ts = l := by
  intro k
  induction k with
  | zero =>
    intro l n hk h
    have hl : l = [] := List.length_eq_zero_iff.1 (by omega)
    subst hl
    cases n with
    | zero => exact ⟨[], rfl, rfl⟩
    | succ n => simp [fs] at h
  | succ k ih =>
    intro l n hk h
    cases l with
    | nil =>
      cases n with
      | zero => exact ⟨[], rfl, rfl⟩
      | succ n => simp [fs] at h
    | cons c l =>
      cases n with
      | zero => rw [fs_zero] at h; simp at h
      | succ n =>
        have hk' : l.length ≤ k := by simpa using hk
        by_cases h0 : c = 48
        · subst h0
          rw [fs_48] at h
          obtain ⟨e, he, h1⟩ := Option.map_eq_some_iff.1 h
          simp only [List.length_cons] at h1
          obtain ⟨ts, h2, h3⟩ := ih l n hk' (by rw [he]; congr 1; omega)
          exact ⟨.nil :: ts, by simp [h2], by rw [txs_cons, h3]; rfl⟩
        · by_cases h1 : c = 49
          · subst h1
            rw [fs_49] at h
            obtain ⟨e, he, h1⟩ := Option.map_eq_some_iff.1 h
            simp only [List.length_cons] at h1
            obtain ⟨ts, h2, h3⟩ := ih l (n + 2) hk' (by rw [he]; congr 1; omega)
            match ts, h2, h3 with
            | a :: b :: ts, h2, h3 => exact ⟨.pair a b :: ts, by simpa using h2, by rw [txs_cons, ← h3, txs_cons, txs_cons]; simp [tx]⟩
          · rw [fs_bad _ _ _ h0 h1] at h; cases h
theorem txs_inj : ∀ {a b : List Tr}, txs a = txs b → a.length = b.length := by
  intro a b h
  have h1 := fs_count (fs_all a)
  have h2 := fs_count (fs_all b)
  rw [h] at h1
  rw [List.take_of_length_le (Nat.le_refl _)] at h1 h2
  omega
theorem tx_app : ∀ {a b : Tr} {r s : List UInt8}, tx a ++ r = tx b ++ s → a = b ∧ r = s := by
  intro a
  induction a with
  | nil =>
    intro b r s h
    cases b with
    | nil => exact ⟨rfl, by simpa [tx] using h⟩
    | pair b c => simp [tx] at h
  | pair a1 a2 ih1 ih2 =>
    intro b r s h
    cases b with
    | nil => simp [tx] at h
    | pair b1 b2 =>
      simp only [tx, List.cons_append, List.append_assoc, List.cons.injEq, true_and] at h
      obtain ⟨e1, h1⟩ := ih1 h
      obtain ⟨e2, h2⟩ := ih2 h1
      exact ⟨by rw [e1, e2], h2⟩
theorem tx_inj {a b : Tr} (h : tx a = tx b) : a = b := (tx_app (r := []) (s := []) (by rw [h])).1
theorem vld_tx {t : Tr} (h : (tx t).length ≤ 2000000) : vld (tx t) = true := by
  refine vld_iff.2 ⟨h, ?_⟩
  have := fs_all [t]
  rw [show txs [t] = tx t from by simp [txs]] at this
  exact this
theorem vld_tr {l : List UInt8} (h : vld l = true) : ∃ t, tx t = l := by
  obtain ⟨ts, h1, h2⟩ := forest _ l 1 (Nat.le_refl _) (vld_iff.1 h).2
  match ts, h1, h2 with
  | [t], _, h2 => exact ⟨t, by simpa [txs] using h2⟩
open Classical in
/-- the tree with a text -/
noncomputable def rd (l : List UInt8) : Tr := if h : ∃ t, tx t = l then h.choose else .nil
theorem rd_tx (t : Tr) : rd (tx t) = t := by
  have h : ∃ u, tx u = tx t := ⟨t, rfl⟩
  unfold rd; rw [dif_pos h]; exact tx_inj h.choose_spec
theorem tx_rd {l : List UInt8} (h : vld l = true) : tx (rd l) = l := by
  obtain ⟨t, rfl⟩ := vld_tr h
  rw [rd_tx]
theorem fs_from {L : List UInt8} (h : vld L = true) : ∀ i, i < L.length → ∃ m, 1 ≤ m ∧ fs (L.drop i) m = some (L.length - i) := by
  intro i
  induction i with
  | zero => intro hi; exact ⟨1, Nat.le_refl _, by simpa using (vld_iff.1 h).2⟩
  | succ i ih =>
    intro hi
    obtain ⟨m, hm, h1⟩ := ih (by omega)
    rw [drop_cons (by omega : i < L.length)] at h1
    obtain ⟨m, rfl⟩ : ∃ n, m = n + 1 := ⟨m - 1, by omega⟩
    by_cases h0 : L[i] = 48
    · rw [h0, fs_48] at h1
      obtain ⟨e, he, h2⟩ := Option.map_eq_some_iff.1 h1
      cases m with
      | zero => rw [fs_zero] at he; cases he; omega
      | succ m => exact ⟨m + 1, by omega, by rw [he]; congr 1; omega⟩
    · by_cases h9 : L[i] = 49
      · rw [h9, fs_49] at h1
        obtain ⟨e, he, h2⟩ := Option.map_eq_some_iff.1 h1
        exact ⟨m + 2, by omega, by rw [he]; congr 1; omega⟩
      · rw [fs_bad _ _ _ h0 h9] at h1; cases h1
theorem vld_byte {L : List UInt8} (h : vld L = true) {i : Nat} (hi : i < L.length) : L[i] = 48 ∨ L[i] = 49 := by
  obtain ⟨m, hm, h1⟩ := fs_from h i hi
  obtain ⟨m, rfl⟩ : ∃ n, m = n + 1 := ⟨m - 1, by omega⟩
  rw [drop_cons hi] at h1
  by_cases h0 : L[i] = 48
  · exact .inl h0
  · by_cases h9 : L[i] = 49
    · exact .inr h9
    · rw [fs_bad _ _ _ h0 h9] at h1; cases h1
/-- a pair's two parts are complete when it is met -/
theorem two_of {L : List UInt8} (h : vld L = true) {i : Nat} (hi : i < L.length) (h9 : L[i] = 49) {ts : List Tr} (ht : txs ts = L.drop (i + 1)) : ∃ a b r, ts = a :: b :: r := by
  obtain ⟨m, hm, h1⟩ := fs_from h i hi
  obtain ⟨m, rfl⟩ : ∃ n, m = n + 1 := ⟨m - 1, by omega⟩
  rw [drop_cons hi, h9, fs_49, ← ht] at h1
  obtain ⟨e, he, h2⟩ := Option.map_eq_some_iff.1 h1
  have hl : (txs ts).length = L.length - (i + 1) := by rw [ht, List.length_drop]
  have h3 := fs_count he
  have h4 := fs_count (fs_all ts)
  have h5 : e = (txs ts).length := by omega
  rw [h5] at h3
  have h6 : ts.length = m + 2 := by omega
  match ts, h6 with
  | a :: b :: r, _ => exact ⟨a, b, r, rfl⟩
theorem txs_len (ts : List Tr) : ts.length ≤ (txs ts).length := by
  induction ts with
  | nil => simp
  | cons t ts ih => rw [txs_cons, List.length_append, List.length_cons]; have := tx_pos t; omega
theorem one_of {L : List UInt8} (h : vld L = true) {ts : List Tr} (ht : txs ts = L) : ts = [rd L] := by
  have h2 : ts.length = ([rd L] : List Tr).length := txs_inj (by rw [ht]; simp [txs, tx_rd h])
  match ts, h2 with
  | [t], _ => rw [show rd L = t from by rw [← ht]; simp [txs, rd_tx]]

/-- the pairs of a text from a place on -/
def onesFrom (L : List UInt8) (i : Nat) : Nat := (L.drop i).count 49
theorem onesFrom_zero {L : List UInt8} {i : Nat} (hi : i < L.length) (h : L[i] = 48) : onesFrom L i = onesFrom L (i + 1) := by
  unfold onesFrom; rw [drop_cons hi, h]; simp
theorem onesFrom_one {L : List UInt8} {i : Nat} (hi : i < L.length) (h : L[i] = 49) : onesFrom L i = onesFrom L (i + 1) + 1 := by
  unfold onesFrom; rw [drop_cons hi, h]; simp
theorem onesFrom_le (L : List UInt8) (i : Nat) : onesFrom L i ≤ ones L := by
  unfold onesFrom ones
  exact (List.drop_sublist i L).count_le _
theorem half_ones {L : List UInt8} (h : vld L = true) : L.length / 2 = ones L := by have := vld_count h; omega

/-- a state: a place and the trees of the registers -/
structure St where
  at_ : Nat
  regs : List Tr
def St.reg (s : St) (n : Int) : Tr := s.regs[n.toNat]?.getD .nil
def St.ok (n : Nat) (s : St) : Prop := s.at_ ≤ n ∧ s.regs.length = 32 ∧ ∀ t ∈ s.regs, (tx t).length ≤ 2000000
def hdT : Tr → Tr | .nil => .nil | .pair a _ => a
def tlT : Tr → Tr | .nil => .nil | .pair _ b => b
def St.put (s : St) (n : Int) (t : Tr) : St := ⟨s.at_ + 1, s.regs.set n.toNat t⟩
open Classical in
/-- the state after the step of an instruction; none: it is too large -/
noncomputable def stepI (x : Ins) (s : St) : Option St :=
  if x.op = 0 then some (s.put x.a (rd x.tree))
  else if x.op = 1 then some (s.put x.a (s.reg x.b))
  else if x.op = 2 then (if (tx (.pair (s.reg x.b) (s.reg x.c))).length ≤ 2000000 then some (s.put x.a (.pair (s.reg x.b) (s.reg x.c))) else none)
  else if x.op = 3 then some (s.put x.a (hdT (s.reg x.b)))
  else if x.op = 4 then some (s.put x.a (tlT (s.reg x.b)))
  else (if s.reg x.a = .nil then some ⟨s.at_ + 1, s.regs⟩ else some ⟨((s.at_ : Int) + x.b).toNat, s.regs⟩)
noncomputable def stepP (ps : List Ins) (s : St) : Option St := (ps[s.at_]?).bind fun x => stepI x s
def first (t : Tr) : St := ⟨0, t :: List.replicate 31 .nil⟩
theorem first_ok {t : Tr} (n : Nat) (h : (tx t).length ≤ 2000000) : (first t).ok n :=
  ⟨Nat.zero_le _, by simp [first], fun u hu => by
    simp only [first, List.mem_cons, List.mem_replicate] at hu
    rcases hu with rfl | ⟨_, rfl⟩
    · exact h
    · simp [tx]⟩
theorem hdT_le (t : Tr) : (tx (hdT t)).length ≤ (tx t).length := by cases t <;> simp [hdT, tx]; omega
theorem tlT_le (t : Tr) : (tx (tlT t)).length ≤ (tx t).length := by cases t <;> simp [tlT, tx]; omega
theorem St.reg_le {n : Nat} {s : St} (h : s.ok n) (k : Int) : (tx (s.reg k)).length ≤ 2000000 := by
  unfold St.reg
  cases hr : s.regs[k.toNat]? with
  | none => simp [tx]
  | some t => exact h.2.2 t (List.mem_of_getElem? hr)
theorem St.put_ok {n : Nat} {s : St} (h : s.ok n) (hn : s.at_ < n) (k : Int) {t : Tr} (ht : (tx t).length ≤ 2000000) : (s.put k t).ok n :=
  ⟨by show s.at_ + 1 ≤ n; omega, by simp [St.put, h.2.1], fun u hu => by
    rcases List.mem_or_eq_of_mem_set hu with h1 | rfl
    · exact h.2.2 u h1
    · exact ht⟩
theorem stepP_ok {ps : List Ins} (hv : PValid ps) {s t : St} (h : s.ok ps.length) (hs : stepP ps s = some t) : t.ok ps.length := by
  unfold stepP at hs
  obtain ⟨x, hx, hs⟩ := Option.bind_eq_some_iff.1 hs
  have hlt : s.at_ < ps.length := (List.getElem?_eq_some_iff.1 hx).1
  have hr := hv.2.2 s.at_ x hx
  unfold stepI at hs
  by_cases h0 : x.op = 0
  · rw [if_pos h0] at hs
    cases hs
    refine St.put_ok h hlt _ ?_
    have : vld x.tree = true := by
      unfold right at hr; rw [h0] at hr; simp at hr; exact hr.2.2
    rw [tx_rd this]; exact (vld_iff.1 this).1
  rw [if_neg h0] at hs
  by_cases h1 : x.op = 1
  · rw [if_pos h1] at hs; cases hs; exact St.put_ok h hlt _ (St.reg_le h _)
  rw [if_neg h1] at hs
  by_cases h2 : x.op = 2
  · rw [if_pos h2] at hs
    by_cases hl : (tx (.pair (s.reg x.b) (s.reg x.c))).length ≤ 2000000
    · rw [if_pos hl] at hs; cases hs; exact St.put_ok h hlt _ hl
    · rw [if_neg hl] at hs; cases hs
  rw [if_neg h2] at hs
  by_cases h3 : x.op = 3
  · rw [if_pos h3] at hs; cases hs; exact St.put_ok h hlt _ (Nat.le_trans (hdT_le _) (St.reg_le h _))
  rw [if_neg h3] at hs
  by_cases h4 : x.op = 4
  · rw [if_pos h4] at hs; cases hs; exact St.put_ok h hlt _ (Nat.le_trans (tlT_le _) (St.reg_le h _))
  rw [if_neg h4] at hs
  by_cases h5 : s.reg x.a = .nil
  · rw [if_pos h5] at hs; cases hs; exact ⟨by show s.at_ + 1 ≤ _; omega, h.2⟩
  · rw [if_neg h5] at hs; cases hs
    refine ⟨?_, h.2⟩
    show ((s.at_ : Int) + x.b).toNat ≤ _
    unfold right at hr
    simp only [h0, h1, h2, h3, h4, if_false] at hr
    by_cases h6 : x.op = 5
    · simp [h6] at hr
      omega
    · simp [h6] at hr
end Go.Proofs.Ytpiahjbpidcjpaa
