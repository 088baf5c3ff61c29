/- Trees and their texts, and the runs of programs: plain mathematics. By an AI agent. -/
import Derived.Test.YtmhoacnbmbhcjaaGreatDoorPrg
import Derived.Test.YtmhoacnbmbhcjaaGreatDoorCod
namespace Go.Proofs.YtmhoacnbmbhcjaaGreatDoor
open Go.RowKit Pl

inductive Tr where
  | nil
  | pair (a b : Tr)
/-- the text of a tree -/
def tx : Tr → List UInt8
  | .nil => [48]
  | .pair a b => 49 :: (tx a ++ tx b)
def txs (ts : List Tr) : List UInt8 := (ts.map tx).flatten
theorem txs_nil : txs [] = [] := rfl
theorem txs_cons (t : Tr) (ts : List Tr) : txs (t :: ts) = tx t ++ txs ts := rfl
theorem tx_pos (t : Tr) : 0 < (tx t).length := by cases t <;> simp [tx]
theorem tx_pair (a b : Tr) : (tx (.pair a b)).length = 1 + (tx a).length + (tx b).length := by simp [tx]; omega
theorem fs_tx : ∀ (t : Tr) (r : List UInt8) (m : Nat), fs (tx t ++ r) (m + 1) = (fs r m).map ((tx t).length + ·) := by
  intro t
  induction t with
  | nil => intro r m; show fs (48 :: r) (m + 1) = _; rw [fs_48]; cases fs r m <;> simp [tx, Nat.add_comm]
  | pair a b iha ihb =>
    intro r m
    show fs (49 :: (tx a ++ tx b ++ r)) (m + 1) = _
    rw [fs_49, List.append_assoc, iha, ihb, tx_pair]
    cases fs r m <;> simp; omega
theorem fs_txs (ts : List Tr) (r : List UInt8) (m : Nat) : fs (txs ts ++ r) (ts.length + m) = (fs r m).map ((txs ts).length + ·) := by
  induction ts with
  | nil => simp [txs]
  | cons t ts ih =>
    rw [txs_cons, List.append_assoc, List.length_cons, show ts.length + 1 + m = (ts.length + m) + 1 from by omega, fs_tx, ih]
    cases fs r m <;> simp; omega
theorem fs_all (ts : List Tr) : fs (txs ts) ts.length = some (txs ts).length := by
  have := fs_txs ts [] 0
  simpa [fs_zero] using this
/-- what consists of n trees does -/
theorem forest : ∀ (k : Nat) (l : List UInt8) (n : Nat), l.length ≤ k → fs l n = some l.length → ∃ ts : List Tr, ts.length = n ∧ txs ts = l := by
  intro k
  induction k with
  | zero =>
    intro l n hk h
    have hl : l = [] := List.length_eq_zero_iff.1 (by omega)
    subst hl
    cases n with
    | zero => exact ⟨[], rfl, rfl⟩
    | succ n => simp [fs] at h
  | succ k ih =>
    intro l n hk h
    cases l with
    | nil =>
      cases n with
      | zero => exact ⟨[], rfl, rfl⟩
      | succ n => simp [fs] at h
    | cons c l =>
      cases n with
      | zero => rw [fs_zero] at h; simp at h
      | succ n =>
        have hk' : l.length ≤ k := by simpa using hk
        by_cases h0 : c = 48
        · subst h0
          rw [fs_48] at h
          obtain ⟨e, he, h1⟩ := Option.map_eq_some_iff.1 h
          simp only [List.length_cons] at h1
          obtain ⟨ts, h2, h3⟩ := ih l n hk' (by rw [he]; congr 1; omega)
          exact ⟨.nil :: ts, by simp [h2], by rw [txs_cons, h3]; rfl⟩
        · by_cases h1 : c = 49
          · subst h1
            rw [fs_49] at h
            obtain ⟨e, he, h1⟩ := Option.map_eq_some_iff.1 h
            simp only [List.length_cons] at h1
            obtain ⟨ts, h2, h3⟩ := ih l (n + 2) hk' (by rw [he]; congr 1; omega)
            match ts, h2, h3 with
            | a :: b :: ts, h2, h3 => exact ⟨.pair a b :: ts, by simpa using h2, by rw [txs_cons, ← h3, txs_cons, txs_cons]; simp [tx]⟩
          · rw [fs_bad _ _ _ h0 h1] at h; cases h
theorem txs_inj : ∀ {a b : List Tr}, txs a = txs b → a.length = b.length := by
  intro a b h
  have h1 := fs_count (fs_all a)
  have h2 := fs_count (fs_all b)
  rw [h] at h1
  rw [List.take_of_length_le (Nat.le_refl _)] at h1 h2
  omega
theorem tx_app : ∀ {a b : Tr} {r s : List UInt8}, tx a ++ r = tx b ++ s → a = b ∧ r = s := by
  intro a
  induction a with
  | nil =>
    intro b r s h
    cases b with
    | nil => exact ⟨rfl, by simpa [tx] using h⟩
    | pair b c => simp [tx] at h
  | pair a1 a2 ih1 ih2 =>
    intro b r s h
    cases b with
    | nil => simp [tx] at h
    | pair b1 b2 =>
      simp only [tx, List.cons_append, List.append_assoc, List.cons.injEq, true_and] at h
      obtain ⟨e1, h1⟩ := ih1 h
      obtain ⟨e2, h2⟩ := ih2 h1
      exact ⟨by rw [e1, e2], h2⟩
theorem tx_inj {a b : Tr} (h : tx a = tx b) : a = b := (tx_app (r := []) (s := []) (by rw [h])).1
theorem vld_tx {t : Tr} (h : (tx t).length ≤ 2000000) : vld (tx t) = true := by
  refine vld_iff.2 ⟨h, ?_⟩
  have := fs_all [t]
  rw [show txs [t] = tx t from by simp [txs]] at this
  exact this
theorem vld_tr {l : List UInt8} (h : vld l = true) : ∃ t, tx t = l := by
  obtain ⟨ts, h1, h2⟩ := forest _ l 1 (Nat.le_refl _) (vld_iff.1 h).2
  match ts, h1, h2 with
  | [t], _, h2 => exact ⟨t, by simpa [txs] using h2⟩
open Classical in
/-- the tree with a text -/
noncomputable def rd (l : List UInt8) : Tr := if h : ∃ t, tx t = l then h.choose else .nil
theorem rd_tx (t : Tr) : rd (tx t) = t := by
  have h : ∃ u, tx u = tx t := ⟨t, rfl⟩
  unfold rd; rw [dif_pos h]; exact tx_inj h.choose_spec
theorem tx_rd {l : List UInt8} (h : vld l = true) : tx (rd l) = l := by
  obtain ⟨t, rfl⟩ := vld_tr h
  rw [rd_tx]
theorem fs_from {L : List UInt8} (h : vld L = true) : ∀ i, i < L.length → ∃ m, 1 ≤ m ∧ fs (L.drop i) m = some (L.length - i) := by
  intro i
  induction i with
  | zero => intro hi; exact ⟨1, Nat.le_refl _, by simpa using (vld_iff.1 h).2⟩
  | succ i ih =>
    intro hi
    obtain ⟨m, hm, h1⟩ := ih (by omega)
    rw [drop_cons (by omega : i < L.length)] at h1
    obtain ⟨m, rfl⟩ : ∃ n, m = n + 1 := ⟨m - 1, by omega⟩
    by_cases h0 : L[i] = 48
    · rw [h0, fs_48] at h1
      obtain ⟨e, he, h2⟩ := Option.map_eq_some_iff.1 h1
      cases m with
      | zero => rw [fs_zero] at he; cases he; omega
      | succ m => exact ⟨m + 1, by omega, by rw [he]; congr 1; omega⟩
    · by_cases h9 : L[i] = 49
      · rw [h9, fs_49] at h1
        obtain ⟨e, he, h2⟩ := Option.map_eq_some_iff.1 h1
        exact ⟨m + 2, by omega, by rw [he]; congr 1; omega⟩
      · rw [fs_bad _ _ _ h0 h9] at h1; cases h1
theorem vld_byte {L : List UInt8} (h : vld L = true) {i : Nat} (hi : i < L.length) : L[i] = 48 ∨ L[i] = 49 := by
  obtain ⟨m, hm, h1⟩ := fs_from h i hi
  obtain ⟨m, rfl⟩ : ∃ n, m = n + 1 := ⟨m - 1, by omega⟩
  rw [drop_cons hi] at h1
  by_cases h0 : L[i] = 48
  · exact .inl h0
  · by_cases h9 : L[i] = 49
    · exact .inr h9
    · rw [fs_bad _ _ _ h0 h9] at h1; cases h1
/-- a pair's two parts are complete when it is met -/
theorem two_of {L : List UInt8} (h : vld L = true) {i : Nat} (hi : i < L.length) (h9 : L[i] = 49) {ts : List Tr} (ht : txs ts = L.drop (i + 1)) : ∃ a b r, ts = a :: b :: r := by
  obtain ⟨m, hm, h1⟩ := fs_from h i hi
  obtain ⟨m, rfl⟩ : ∃ n, m = n + 1 := ⟨m - 1, by omega⟩
  rw [drop_cons hi, h9, fs_49, ← ht] at h1
  obtain ⟨e, he, h2⟩ := Option.map_eq_some_iff.1 h1
  have hl : (txs ts).length = L.length - (i + 1) := by rw [ht, List.length_drop]
  have h3 := fs_count he
  have h4 := fs_count (fs_all ts)
  have h5 : e = (txs ts).length := by omega
  rw [h5] at h3
  have h6 : ts.length = m + 2 := by omega
  match ts, h6 with
  | a :: b :: r, _ => exact ⟨a, b, r, rfl⟩
theorem txs_len (ts : List Tr) : ts.length ≤ (txs ts).length := by
  induction ts with
  | nil => simp
  | cons t ts ih => rw [txs_cons, List.length_append, List.length_cons]; have := tx_pos t; omega
theorem one_of {L : List UInt8} (h : vld L = true) {ts : List Tr} (ht : txs ts = L) : ts = [rd L] := by
  have h2 : ts.length = ([rd L] : List Tr).length := txs_inj (by rw [ht]; simp [txs, tx_rd h])
  match ts, h2 with
  | [t], _ => rw [show rd L = t from by rw [← ht]; simp [txs, rd_tx]]

/-- the pairs of a text from a place on -/
def onesFrom (L : List UInt8) (i : Nat) : Nat := (L.drop i).count 49
theorem onesFrom_zero {L : List UInt8} {i : Nat} (hi : i < L.length) (h : L[i] = 48) : onesFrom L i = onesFrom L (i + 1) := by
  unfold onesFrom; rw [drop_cons hi, h]; simp
theorem onesFrom_one {L : List UInt8} {i : Nat} (hi : i < L.length) (h : L[i] = 49) : onesFrom L i = onesFrom L (i + 1) + 1 := by
  unfold onesFrom; rw [drop_cons hi, h]; simp
theorem onesFrom_le (L : List UInt8) (i : Nat) : onesFrom L i ≤ ones L := by
  unfold onesFrom ones
  exact (List.drop_sublist i L).count_le _
theorem half_ones {L : List UInt8} (h : vld L = true) : L.length / 2 = ones L := by have := vld_count h; omega

/-- a state: a place and the trees of the registers -/
structure St where
  at_ : Nat
  regs : List Tr
def St.reg (s : St) (n : Int) : Tr := s.regs[n.toNat]?.getD .nil
def St.ok (n : Nat) (s : St) : Prop := s.at_ ≤ n ∧ s.regs.length = 32 ∧ ∀ t ∈ s.regs, (tx t).length ≤ 2000000
def hdT : Tr → Tr | .nil => .nil | .pair a _ => a
def tlT : Tr → Tr | .nil => .nil | .pair _ b => b
def St.put (s : St) (n : Int) (t : Tr) : St := ⟨s.at_ + 1, s.regs.set n.toNat t⟩
open Classical in
/-- the state after the step of an instruction; none: it is too large -/
noncomputable def stepI (x : Ins) (s : St) : Option St :=
  if x.op = 0 then some (s.put x.a (rd x.tree))
  else if x.op = 1 then some (s.put x.a (s.reg x.b))
  else if x.op = 2 then (if (tx (.pair (s.reg x.b) (s.reg x.c))).length ≤ 2000000 then some (s.put x.a (.pair (s.reg x.b) (s.reg x.c))) else none)
  else if x.op = 3 then some (s.put x.a (hdT (s.reg x.b)))
  else if x.op = 4 then some (s.put x.a (tlT (s.reg x.b)))
  else (if s.reg x.a = .nil then some ⟨s.at_ + 1, s.regs⟩ else some ⟨((s.at_ : Int) + x.b).toNat, s.regs⟩)
noncomputable def stepP (ps : List Ins) (s : St) : Option St := (ps[s.at_]?).bind fun x => stepI x s
def first (t : Tr) : St := ⟨0, t :: List.replicate 31 .nil⟩
theorem first_ok {t : Tr} (n : Nat) (h : (tx t).length ≤ 2000000) : (first t).ok n :=
  ⟨Nat.zero_le _, by simp [first], fun u hu => by
    simp only [first, List.mem_cons, List.mem_replicate] at hu
    rcases hu with rfl | ⟨_, rfl⟩
    · exact h
    · simp [tx]⟩
theorem hdT_le (t : Tr) : (tx (hdT t)).length ≤ (tx t).length := by cases t <;> simp [hdT, tx]; omega
theorem tlT_le (t : Tr) : (tx (tlT t)).length ≤ (tx t).length := by cases t <;> simp [tlT, tx]; omega
theorem St.reg_le {n : Nat} {s : St} (h : s.ok n) (k : Int) : (tx (s.reg k)).length ≤ 2000000 := by
  unfold St.reg
  cases hr : s.regs[k.toNat]? with
  | none => simp [tx]
  | some t => exact h.2.2 t (List.mem_of_getElem? hr)
theorem St.put_ok {n : Nat} {s : St} (h : s.ok n) (hn : s.at_ < n) (k : Int) {t : Tr} (ht : (tx t).length ≤ 2000000) : (s.put k t).ok n :=
  ⟨by show s.at_ + 1 ≤ n; omega, by simp [St.put, h.2.1], fun u hu => by
    rcases List.mem_or_eq_of_mem_set hu with h1 | rfl
    · exact h.2.2 u h1
    · exact ht⟩
theorem stepP_ok {ps : List Ins} (hv : PValid ps) {s t : St} (h : s.ok ps.length) (hs : stepP ps s = some t) : t.ok ps.length := by
  unfold stepP at hs
  obtain ⟨x, hx, hs⟩ := Option.bind_eq_some_iff.1 hs
  have hlt : s.at_ < ps.length := (List.getElem?_eq_some_iff.1 hx).1
  have hr := hv.2.2 s.at_ x hx
  unfold stepI at hs
  by_cases h0 : x.op = 0
  · rw [if_pos h0] at hs
    cases hs
    refine St.put_ok h hlt _ ?_
    have : vld x.tree = true := by
      unfold right at hr; rw [h0] at hr; simp at hr; exact hr.2.2
    rw [tx_rd this]; exact (vld_iff.1 this).1
  rw [if_neg h0] at hs
  by_cases h1 : x.op = 1
  · rw [if_pos h1] at hs; cases hs; exact St.put_ok h hlt _ (St.reg_le h _)
  rw [if_neg h1] at hs
  by_cases h2 : x.op = 2
  · rw [if_pos h2] at hs
    by_cases hl : (tx (.pair (s.reg x.b) (s.reg x.c))).length ≤ 2000000
    · rw [if_pos hl] at hs; cases hs; exact St.put_ok h hlt _ hl
    · rw [if_neg hl] at hs; cases hs
  rw [if_neg h2] at hs
  by_cases h3 : x.op = 3
  · rw [if_pos h3] at hs; cases hs; exact St.put_ok h hlt _ (Nat.le_trans (hdT_le _) (St.reg_le h _))
  rw [if_neg h3] at hs
  by_cases h4 : x.op = 4
  · rw [if_pos h4] at hs; cases hs; exact St.put_ok h hlt _ (Nat.le_trans (tlT_le _) (St.reg_le h _))
  rw [if_neg h4] at hs
  by_cases h5 : s.reg x.a = .nil
  · rw [if_pos h5] at hs; cases hs; exact ⟨by show s.at_ + 1 ≤ _; omega, h.2⟩
  · rw [if_neg h5] at hs; cases hs
    refine ⟨?_, h.2⟩
    show ((s.at_ : Int) + x.b).toNat ≤ _
    unfold right at hr
    simp only [h0, h1, h2, h3, h4, if_false] at hr
    by_cases h6 : x.op = 5
    · simp [h6] at hr
      omega
    · simp [h6] at hr
end Go.Proofs.YtmhoacnbmbhcjaaGreatDoor

namespace Go.Proofs.YtmhoacnbmbhcjaaGreatDoor
open Go.RowKit Pl

/-- the state after so many steps, none of them made behind the end -/
inductive Steps (ps : List Ins) (s0 : St) : Nat → St → Prop
  | zero : Steps ps s0 0 s0
  | succ {n : Nat} {s t : St} : Steps ps s0 n s → s.at_ ≠ ps.length → stepP ps s = some t → Steps ps s0 (n + 1) t
theorem Steps.ok {ps : List Ins} {s0 s : St} {n : Nat} (h : Steps ps s0 n s) (hv : PValid ps) (h0 : s0.ok ps.length) : s.ok ps.length := by
  induction h with
  | zero => exact h0
  | succ _ _ hs ih => exact stepP_ok hv ih hs
theorem Steps.det {ps : List Ins} {s0 s t : St} {n : Nat} (h : Steps ps s0 n s) (k : Steps ps s0 n t) : s = t := by
  induction h generalizing t with
  | zero => cases k; rfl
  | succ h1 _ hs ih =>
    cases k with
    | succ k1 _ ks => rw [ih k1] at hs; rw [hs] at ks; cases ks; rfl
theorem Steps.front {ps : List Ins} {s0 t s : St} {n : Nat} (h : Steps ps t n s) (he : s0.at_ ≠ ps.length) (ht : stepP ps s0 = some t) : Steps ps s0 (n + 1) s := by
  induction h with
  | zero => exact .succ .zero he ht
  | succ _ h5 h6 ih => exact .succ ih h5 h6
/-- at most k steps: the state, and how many steps; none: one is too large -/
noncomputable def runTo (ps : List Ins) : Nat → St → Option (St × Nat)
  | 0, s => some (s, 0)
  | k + 1, s => if s.at_ = ps.length then some (s, 0) else (stepP ps s).bind fun t => (runTo ps k t).map fun r => (r.1, r.2 + 1)
theorem runTo_end {ps : List Ins} {s : St} (h : s.at_ = ps.length) (k : Nat) : runTo ps k s = some (s, 0) := by
  cases k with
  | zero => rfl
  | succ k => rw [runTo, if_pos h]
theorem runTo_none {ps : List Ins} {s : St} (h : s.at_ ≠ ps.length) (hs : stepP ps s = none) {k : Nat} (hk : 0 < k) : runTo ps k s = none := by
  obtain ⟨k, rfl⟩ : ∃ q, k = q + 1 := ⟨k - 1, by omega⟩
  rw [runTo, if_neg h, hs]; rfl
theorem runTo_steps {ps : List Ins} {s0 s : St} {n : Nat} (h : Steps ps s0 n s) : ∀ {k : Nat}, n ≤ k → runTo ps k s0 = (runTo ps (k - n) s).map fun r => (r.1, r.2 + n) := by
  induction h with
  | zero => intro k _; simp
  | @succ n s t h1 h2 hs ih =>
    intro k hk
    rw [ih (by omega), show k - n = (k - (n + 1)) + 1 by omega, runTo, if_neg h2, hs]
    simp only [Option.bind_some, Option.map_map]
    congr 1
    funext r
    simp only [Function.comp, Prod.mk.injEq, true_and]
    omega
theorem runTo_is {ps : List Ins} {s0 s : St} {n k : Nat} (h : Steps ps s0 n s) (hn : n ≤ k) (he : n = k ∨ s.at_ = ps.length) : runTo ps k s0 = some (s, n) := by
  rw [runTo_steps h hn]
  rcases he with rfl | he
  · simp [runTo]
  · rw [runTo_end he]; simp
theorem runTo_large {ps : List Ins} {s0 s : St} {n k : Nat} (h : Steps ps s0 n s) (hn : n < k) (he : s.at_ ≠ ps.length) (hs : stepP ps s = none) : runTo ps k s0 = none := by
  rw [runTo_steps h (by omega), runTo_none he hs (by omega)]; rfl
/-- what has been found of a run is all that there is -/
theorem runTo_some {ps : List Ins} : ∀ {k : Nat} {s0 s : St} {n : Nat}, runTo ps k s0 = some (s, n) → Steps ps s0 n s ∧ n ≤ k ∧ (n = k ∨ s.at_ = ps.length) := by
  intro k
  induction k with
  | zero => intro s0 s n h; simp only [runTo, Option.some.injEq, Prod.mk.injEq] at h; obtain ⟨rfl, rfl⟩ := h; exact ⟨.zero, Nat.le_refl _, .inl rfl⟩
  | succ k ih =>
    intro s0 s n h
    rw [runTo] at h
    by_cases he : s0.at_ = ps.length
    · rw [if_pos he] at h; cases h; exact ⟨.zero, Nat.zero_le _, .inr he⟩
    · rw [if_neg he] at h
      obtain ⟨t, ht, h⟩ := Option.bind_eq_some_iff.1 h
      obtain ⟨⟨r, m⟩, hr, h⟩ := Option.map_eq_some_iff.1 h
      simp only [Prod.mk.injEq] at h
      obtain ⟨rfl, rfl⟩ := h
      obtain ⟨h1, h2, h3⟩ := ih hr
      exact ⟨h1.front he ht, by omega, by omega⟩
end Go.Proofs.YtmhoacnbmbhcjaaGreatDoor

namespace Go.Proofs.YtmhoacnbmbhcjaaGreatDoor
open Go.RowKit Pl

/-- an instruction names no register from m on -/
def Within (x : Ins) (m : Int) : Prop := x.a < m ∧ (x.op ≠ 5 → x.b < m ∧ x.c < m)
theorem Within.mono {x : Ins} {m n : Int} (h : Within x m) (hn : m ≤ n) : Within x n := ⟨by have := h.1; omega, fun h5 => by have := h.2 h5; omega⟩
theorem rstep_ge (n : Int) (x : Ins) : n ≤ rstep n x := by unfold rstep; split <;> omega
theorem rstep_in (n : Int) (x : Ins) : Within x (rstep n x) := by
  unfold Within rstep
  split
  · rename_i h; exact ⟨by omega, fun h5 => absurd h h5⟩
  · exact ⟨by omega, fun _ => ⟨by omega, by omega⟩⟩
theorem rstep_le {n m : Int} {x : Ins} (hn : n ≤ m) (h : Within x m) : rstep n x ≤ m := by
  unfold rstep
  obtain ⟨h1, h2⟩ := h
  split
  · omega
  · rename_i h5; have := h2 h5; omega
theorem fold_ge : ∀ (ps : List Ins) (n : Int), n ≤ ps.foldl rstep n := by
  intro ps
  induction ps with
  | nil => intro n; exact Int.le_refl _
  | cons x ps ih => intro n; exact Int.le_trans (rstep_ge n x) (ih _)
theorem fold_in : ∀ (ps : List Ins) (n : Int), ∀ x ∈ ps, Within x (ps.foldl rstep n) := by
  intro ps
  induction ps with
  | nil => intro n x h; cases h
  | cons y ps ih =>
    intro n x h
    rcases List.mem_cons.1 h with rfl | h
    · exact (rstep_in n x).mono (fold_ge ps _)
    · exact ih _ x h
theorem fold_le : ∀ (ps : List Ins) (n m : Int), n ≤ m → (∀ x ∈ ps, Within x m) → ps.foldl rstep n ≤ m := by
  intro ps
  induction ps with
  | nil => intro n m h _; exact h
  | cons y ps ih => intro n m h hp; exact ih _ _ (rstep_le h (hp y (by simp))) fun x hx => hp x (by simp [hx])
theorem regs_in (ps : List Ins) : ∀ x ∈ ps, Within x (regs ps) := fold_in ps 1
theorem regs_pos (ps : List Ins) : 1 ≤ regs ps := fold_ge ps 1
theorem regs_least {ps : List Ins} {m : Int} (h1 : 1 ≤ m) (h : ∀ x ∈ ps, Within x m) : regs ps ≤ m := fold_le ps 1 m h1 h
theorem right_in {x : Ins} {i n : Int} (h : right x i n = true) : Within x 32 := by
  obtain ⟨ha, hc⟩ := right_cases h
  have h1 := reg_true ha
  refine ⟨h1.2, fun h5 => ?_⟩
  rcases hc with ⟨ho, hb, hc, _⟩ | ⟨ho, hb, hc, _⟩ | ⟨ho, hb, hc, _⟩ | ⟨ho, hc, _⟩
  · omega
  · have := reg_true hb; omega
  · have := reg_true hb; have := reg_true hc; omega
  · exact absurd ho h5
theorem regs_le {ps : List Ins} (h : PValid ps) : regs ps ≤ 32 :=
  regs_least (by omega) fun x hx => by
    obtain ⟨k, hk⟩ := List.mem_iff_getElem?.1 hx
    exact right_in (h.2.2 k x hk)

/-- how a run of at most so many steps ends -/
inductive Out where
  | ok (y : Tr) (n : Nat)
  | size
  | fuel
def Out.later (k : Nat) : Out → Out
  | .ok y n => .ok y (n + k)
  | .size => .size
  | .fuel => .fuel
noncomputable def out (cs : List Ins) (K : Nat) (s : St) : Out :=
  match runTo cs K s with
  | none => .size
  | some (t, n) => if t.at_ = cs.length then .ok (t.reg 0) n else .fuel
theorem out_steps {cs : List Ins} {s0 s : St} {n : Nat} (h : Steps cs s0 n s) (K : Nat) : out cs (n + K) s0 = (out cs K s).later n := by
  unfold out
  rw [runTo_steps h (Nat.le_add_right _ _), Nat.add_sub_cancel_left]
  cases hr : runTo cs K s with
  | none => rfl
  | some r =>
    obtain ⟨t, k⟩ := r
    simp only [Option.map_some]
    by_cases he : t.at_ = cs.length
    · rw [if_pos he, if_pos he]; rfl
    · rw [if_neg he, if_neg he]; rfl
theorem out_end {cs : List Ins} {s0 s : St} {n K : Nat} (h : Steps cs s0 n s) (hn : n ≤ K) (he : s.at_ = cs.length) : out cs K s0 = .ok (s.reg 0) n := by
  unfold out; rw [runTo_is h hn (.inr he)]; simp [he]
theorem out_fuel {cs : List Ins} {s0 s : St} {n : Nat} (h : Steps cs s0 n s) (he : s.at_ ≠ cs.length) : out cs n s0 = .fuel := by
  unfold out; rw [runTo_is h (Nat.le_refl _) (.inl rfl)]; simp [he]
theorem out_large {cs : List Ins} {s0 s : St} {n K : Nat} (h : Steps cs s0 n s) (hn : n < K) (he : s.at_ ≠ cs.length) (hs : stepP cs s = none) : out cs K s0 = .size := by
  unfold out; rw [runTo_large h hn he hs]
theorem runTo_none_ex {ps : List Ins} : ∀ {K : Nat} {s0 : St}, runTo ps K s0 = none → ∃ n s, n < K ∧ Steps ps s0 n s ∧ s.at_ ≠ ps.length ∧ stepP ps s = none := by
  intro K
  induction K with
  | zero => intro s0 h; simp [runTo] at h
  | succ K ih =>
    intro s0 h
    rw [runTo] at h
    by_cases he : s0.at_ = ps.length
    · rw [if_pos he] at h; cases h
    · rw [if_neg he] at h
      cases hs : stepP ps s0 with
      | none => exact ⟨0, s0, by omega, .zero, he, hs⟩
      | some t =>
        rw [hs] at h
        simp only [Option.bind_some, Option.map_eq_none_iff] at h
        obtain ⟨n, s, h1, h2, h3, h4⟩ := ih h
        exact ⟨n + 1, s, by omega, h2.front he hs, h3, h4⟩
theorem out_ok {ps : List Ins} {K : Nat} {s0 : St} {z : Tr} {n : Nat} (h : out ps K s0 = .ok z n) : ∃ s, Steps ps s0 n s ∧ n ≤ K ∧ s.at_ = ps.length ∧ s.reg 0 = z := by
  unfold out at h
  cases hr : runTo ps K s0 with
  | none => rw [hr] at h; cases h
  | some r =>
    obtain ⟨t, k⟩ := r
    rw [hr] at h
    simp only at h
    by_cases he : t.at_ = ps.length
    · rw [if_pos he] at h
      injection h with h1 h2
      subst h1; subst h2
      obtain ⟨h1, h2, _⟩ := runTo_some hr
      exact ⟨t, h1, h2, he, rfl⟩
    · rw [if_neg he] at h; cases h
theorem out_is_fuel {ps : List Ins} {K : Nat} {s0 : St} (h : out ps K s0 = .fuel) : ∃ s, Steps ps s0 K s ∧ s.at_ ≠ ps.length := by
  unfold out at h
  cases hr : runTo ps K s0 with
  | none => rw [hr] at h; cases h
  | some r =>
    obtain ⟨t, k⟩ := r
    rw [hr] at h
    simp only at h
    by_cases he : t.at_ = ps.length
    · rw [if_pos he] at h; cases h
    · obtain ⟨h1, h2, h3⟩ := runTo_some hr
      rcases h3 with rfl | h3
      · exact ⟨t, h1, he⟩
      · exact absurd h3 he
theorem out_is_size {ps : List Ins} {K : Nat} {s0 : St} (h : out ps K s0 = .size) : ∃ n s, n < K ∧ Steps ps s0 n s ∧ s.at_ ≠ ps.length ∧ stepP ps s = none := by
  unfold out at h
  cases hr : runTo ps K s0 with
  | none => exact runTo_none_ex hr
  | some r =>
    obtain ⟨t, k⟩ := r
    rw [hr] at h
    simp only at h
    by_cases he : t.at_ = ps.length
    · rw [if_pos he] at h; cases h
    · rw [if_neg he] at h; cases h
theorem Steps.then {cs : List Ins} {s0 s t : St} {m n : Nat} (h : Steps cs s0 m s) (k : Steps cs s n t) : Steps cs s0 (m + n) t := by
  induction k with
  | zero => exact h
  | succ _ h5 h6 ih => exact .succ ih h5 h6

/-- s' does in a longer program what s does in p, which begins at place a and uses registers below m -/
structure Sim (a m : Nat) (R : List Tr) (s s' : St) : Prop where
  at_ : s'.at_ = a + s.at_
  len : s.regs.length = 32
  len' : s'.regs.length = 32
  low : ∀ r, r < m → s'.regs[r]? = s.regs[r]?
  high : ∀ r, m ≤ r → s'.regs[r]? = R[r]?
theorem Sim.reg {a m : Nat} {R : List Tr} {s s' : St} (h : Sim a m R s s') {k : Int} (h0 : 0 ≤ k) (hk : k < m) : s'.reg k = s.reg k := by
  unfold St.reg; rw [h.low _ (by omega)]
theorem Sim.put {a m : Nat} {R : List Tr} {s s' : St} (h : Sim a m R s s') {k : Int} (h0 : 0 ≤ k) (hk : k < m) (t : Tr) : Sim a m R (s.put k t) (s'.put k t) where
  at_ := by show s'.at_ + 1 = a + (s.at_ + 1); rw [h.at_]; omega
  len := by simp [St.put, h.len]
  len' := by simp [St.put, h.len']
  low := fun r hr => by
    simp only [St.put, List.getElem?_set, h.len, h.len']
    split
    · rfl
    · exact h.low r hr
  high := fun r hr => by
    simp only [St.put, List.getElem?_set]
    rw [if_neg (by omega)]
    exact h.high r hr
theorem stepI_0 {x : Ins} (s : St) (h : x.op = 0) : stepI x s = some (s.put x.a (rd x.tree)) := by unfold stepI; simp [h]
theorem stepI_1 {x : Ins} (s : St) (h : x.op = 1) : stepI x s = some (s.put x.a (s.reg x.b)) := by unfold stepI; simp [h]
theorem stepI_2 {x : Ins} (s : St) (h : x.op = 2) : stepI x s = if (tx (.pair (s.reg x.b) (s.reg x.c))).length ≤ 2000000 then some (s.put x.a (.pair (s.reg x.b) (s.reg x.c))) else none := by unfold stepI; simp [h]
theorem stepI_3 {x : Ins} (s : St) (h : x.op = 3) : stepI x s = some (s.put x.a (hdT (s.reg x.b))) := by unfold stepI; simp [h]
theorem stepI_4 {x : Ins} (s : St) (h : x.op = 4) : stepI x s = some (s.put x.a (tlT (s.reg x.b))) := by unfold stepI; simp [h]
open Classical in
theorem stepI_5 {x : Ins} (s : St) (h : x.op = 5) : stepI x s = if s.reg x.a = .nil then some ⟨s.at_ + 1, s.regs⟩ else some ⟨((s.at_ : Int) + x.b).toNat, s.regs⟩ := by unfold stepI; simp [h]
theorem stepI_sim {x : Ins} {a m : Nat} {R : List Tr} {s s' : St} {n : Nat} (h : Sim a m R s s') (hr : right x s.at_ n = true) (hw : Within x m) :
    (stepI x s = none → stepI x s' = none) ∧ ∀ t, stepI x s = some t → ∃ t', stepI x s' = some t' ∧ Sim a m R t t' := by
  obtain ⟨ha, hc⟩ := right_cases hr
  have h1 := reg_true ha
  have ha2 := hw.1
  have key : ∀ (u : Tr), stepI x s = some (s.put x.a u) → stepI x s' = some (s'.put x.a u) → (stepI x s = none → stepI x s' = none) ∧ ∀ t, stepI x s = some t → ∃ t', stepI x s' = some t' ∧ Sim a m R t t' := by
    intro u e1 e2
    rw [e1, e2]
    refine ⟨(fun h => by cases h), fun t ht => ⟨_, rfl, ?_⟩⟩
    cases ht
    exact h.put h1.1 ha2 u
  rcases hc with ⟨ho, _⟩ | ⟨ho, hb, _⟩ | ⟨ho, hb, hc, _⟩ | ⟨ho, _, _, hj1, hj2⟩
  · exact key _ (stepI_0 s ho) (stepI_0 s' ho)
  · have h2 := reg_true hb
    have hb2 := (hw.2 (by rcases ho with ho | ho | ho <;> omega)).1
    have e := h.reg h2.1 hb2
    rcases ho with ho | ho | ho
    · exact key _ (stepI_1 s ho) (by rw [stepI_1 s' ho, e])
    · exact key _ (stepI_3 s ho) (by rw [stepI_3 s' ho, e])
    · exact key _ (stepI_4 s ho) (by rw [stepI_4 s' ho, e])
  · have h2 := reg_true hb
    have h3 := reg_true hc
    have hb2 := hw.2 (by omega)
    have e := h.reg h2.1 hb2.1
    have e2 := h.reg h3.1 hb2.2
    by_cases hl : (tx (.pair (s.reg x.b) (s.reg x.c))).length ≤ 2000000
    · exact key _ (by rw [stepI_2 s ho, if_pos hl]) (by rw [stepI_2 s' ho, e, e2, if_pos hl])
    · rw [stepI_2 s ho, stepI_2 s' ho, e, e2, if_neg hl, if_neg hl]
      exact ⟨fun _ => rfl, fun t ht => by cases ht⟩
  · have e := h.reg h1.1 ha2
    rw [stepI_5 s ho, stepI_5 s' ho, e]
    by_cases hn : s.reg x.a = .nil
    · rw [if_pos hn, if_pos hn]
      refine ⟨(fun h => by cases h), fun t ht => ⟨_, rfl, ?_⟩⟩
      cases ht
      exact { at_ := by show s'.at_ + 1 = a + (s.at_ + 1); rw [h.at_]; omega, len := h.len, len' := h.len', low := h.low, high := h.high }
    · rw [if_neg hn, if_neg hn]
      refine ⟨(fun h => by cases h), fun t ht => ⟨_, rfl, ?_⟩⟩
      cases ht
      exact { at_ := by show ((s'.at_ : Int) + x.b).toNat = a + ((s.at_ : Int) + x.b).toNat; rw [h.at_]; omega, len := h.len, len' := h.len', low := h.low, high := h.high }
theorem get_in {A p B cs : List Ins} (hc : cs = A ++ p ++ B) {k : Nat} (hk : k < p.length) : cs[A.length + k]? = p[k]? := by
  subst hc
  rw [List.getElem?_append_left (by simp; omega), List.getElem?_append_right (by omega)]
  congr 1; omega
theorem stepP_sim {A p B cs : List Ins} (hc : cs = A ++ p ++ B) (hv : PValid p) {m : Nat} (hm : regs p ≤ m) {R : List Tr} {s s' : St} (h : Sim A.length m R s s') (hs : s.ok p.length) (he : s.at_ ≠ p.length) :
    (stepP p s = none → stepP cs s' = none) ∧ ∀ t, stepP p s = some t → ∃ t', stepP cs s' = some t' ∧ Sim A.length m R t t' := by
  have hlt : s.at_ < p.length := by have := hs.1; omega
  obtain ⟨x, hx⟩ := get_at hlt
  have hx' : cs[s'.at_]? = some x := by rw [h.at_, get_in hc hlt, hx]
  unfold stepP
  rw [hx, hx']
  exact stepI_sim h (hv.2.2 _ x hx) ((regs_in p x (List.mem_of_getElem? hx)).mono hm)
theorem steps_sim {A p B cs : List Ins} (hc : cs = A ++ p ++ B) (hv : PValid p) {m : Nat} (hm : regs p ≤ m) {R : List Tr} {s0 s0' : St} (h0 : Sim A.length m R s0 s0') (hok : s0.ok p.length) {n : Nat} {t : St} (h : Steps p s0 n t) :
    ∃ t', Steps cs s0' n t' ∧ Sim A.length m R t t' := by
  induction h with
  | zero => exact ⟨s0', .zero, h0⟩
  | @succ n s t h1 h2 hs ih =>
    obtain ⟨s', k1, k2⟩ := ih
    have hso := h1.ok hv hok
    obtain ⟨t', k3, k4⟩ := (stepP_sim hc hv hm k2 hso h2).2 t hs
    refine ⟨t', .succ k1 ?_ k3, k4⟩
    rw [k2.at_, hc]
    have := hso.1
    simp only [List.length_append]; omega
theorem sim_short {A p B cs : List Ins} (hc : cs = A ++ p ++ B) {m : Nat} {R : List Tr} {s s' : St} (h : Sim A.length m R s s') (hs : s.ok p.length) (he : s.at_ ≠ p.length) : s'.at_ ≠ cs.length := by
  rw [h.at_, hc]
  have := hs.1
  simp only [List.length_append]; omega
/-- a part that ends -/
theorem part_ok {A p B cs : List Ins} (hc : cs = A ++ p ++ B) (hv : PValid p) {m : Nat} (hm : regs p ≤ m) {R : List Tr} {s0 s0' : St} (h0 : Sim A.length m R s0 s0') (hok : s0.ok p.length) {F n : Nat} {z : Tr} (h : out p F s0 = .ok z n) :
    n ≤ F ∧ ∃ t', Steps cs s0' n t' ∧ t'.at_ = A.length + p.length ∧ t'.regs.length = 32 ∧ t'.regs[0]? = some z ∧ ∀ r, m ≤ r → t'.regs[r]? = R[r]? := by
  obtain ⟨s, h1, h2, h3, h4⟩ := out_ok h
  obtain ⟨t', k1, k2⟩ := steps_sim hc hv hm h0 hok h1
  have hm1 : 0 < m := by have := regs_pos p; omega
  refine ⟨h2, t', k1, by rw [k2.at_, h3], k2.len', ?_, k2.high⟩
  rw [k2.low 0 hm1, ← h4]
  unfold St.reg
  have hl := k2.len
  rw [List.getElem?_eq_getElem (by omega : 0 < s.regs.length)]
  simp only [Int.toNat_zero]
  rw [List.getElem?_eq_getElem (by omega : 0 < s.regs.length)]; rfl
theorem part_size {A p B cs : List Ins} (hc : cs = A ++ p ++ B) (hv : PValid p) {m : Nat} (hm : regs p ≤ m) {R : List Tr} {s0 s0' : St} (h0 : Sim A.length m R s0 s0') (hok : s0.ok p.length) {F : Nat} (h : out p F s0 = .size) : out cs F s0' = .size := by
  obtain ⟨n, s, h1, h2, h3, h4⟩ := out_is_size h
  obtain ⟨t', k1, k2⟩ := steps_sim hc hv hm h0 hok h2
  have hso := h2.ok hv hok
  exact out_large k1 h1 (sim_short hc k2 hso h3) ((stepP_sim hc hv hm k2 hso h3).1 h4)
theorem part_fuel {A p B cs : List Ins} (hc : cs = A ++ p ++ B) (hv : PValid p) {m : Nat} (hm : regs p ≤ m) {R : List Tr} {s0 s0' : St} (h0 : Sim A.length m R s0 s0') (hok : s0.ok p.length) {F : Nat} (h : out p F s0 = .fuel) : out cs F s0' = .fuel := by
  obtain ⟨s, h1, h3⟩ := out_is_fuel h
  obtain ⟨t', k1, k2⟩ := steps_sim hc hv hm h0 hok h1
  exact out_fuel k1 (sim_short hc k2 (h1.ok hv hok) h3)
end Go.Proofs.YtmhoacnbmbhcjaaGreatDoor

namespace Go.Proofs.YtmhoacnbmbhcjaaGreatDoor
open Go.RowKit Pl

def setI (a : Int) (t : List UInt8) : Ins := ⟨0, a, 0, 0, t⟩
def moveI (a b : Int) : Ins := ⟨1, a, b, 0, []⟩
def consI (a b c : Int) : Ins := ⟨2, a, b, c, []⟩
def jumpI (a b : Int) : Ins := ⟨5, a, b, 0, []⟩
/-- the cleaning of a program that uses m registers -/
def cleanL (m : Nat) : List Ins := (List.range (m - 1)).map fun (i : Nat) => setI ((i : Int) + 1) [48]
theorem cleanL_len (m : Nat) : (cleanL m).length = m - 1 := by simp [cleanL]
def rn (p : List Ins) : Nat := (regs p).toNat
theorem rn_eq (p : List Ins) : ((rn p : Nat) : Int) = regs p := by have := regs_pos p; unfold rn; omega
theorem rn_pos (p : List Ins) : 1 ≤ rn p := by have := regs_pos p; unfold rn; omega
theorem rn_le {p : List Ins} (h : PValid p) : rn p ≤ 32 := by have := regs_le h; unfold rn; omega
/-- a program behind its cleaning -/
def behind (p : List Ins) : List Ins := cleanL (rn p) ++ p
def thenL : List (List Ins) → List Ins
  | [] => []
  | p :: l => p ++ l.flatMap behind
def pairL (p q : List Ins) : List Ins :=
  let n : Nat := max (rn p) (rn q)
  [moveI n 0] ++ p ++ [moveI ((n : Int) + 1) 0, moveI 0 n] ++ behind q ++ [consI 0 ((n : Int) + 1) 0]
def ifL (c p q : List Ins) : List Ins :=
  let n : Nat := max (max (rn c) (rn p)) (rn q)
  [moveI n 0] ++ c ++ [jumpI 0 (((behind q).length : Int) + 4), moveI 0 n] ++ behind q ++ [setI n [49, 48, 48], jumpI n (((behind p).length : Int) + 2), moveI 0 n] ++ behind p
def whileL (c p : List Ins) : List Ins :=
  let n : Nat := max (rn c) (rn p)
  let l : List Ins := [moveI n 0] ++ behind c ++ [jumpI 0 4, moveI 0 n, setI n [49, 48, 48], jumpI n (((behind p).length : Int) + 4), moveI 0 n] ++ behind p ++ [setI n [49, 48, 48]]
  l ++ [jumpI n (-(l.length : Int))]

/-- every instruction is right where pre instructions are ahead and post behind -/
def Rights (pre : Nat) (cs : List Ins) (post : Nat) : Prop := ∀ k x, cs[k]? = some x → right x ((pre + k : Nat) : Int) ((pre + cs.length + post : Nat) : Int) = true
theorem rights_all {cs : List Ins} : Rights 0 cs 0 ↔ AllR cs := by
  unfold Rights AllR
  simp only [Nat.zero_add, Nat.add_zero]
theorem right_wide {x : Ins} {i n i2 n2 : Int} (h : right x i n = true) (h1 : i ≤ i2) (h2 : n - i ≤ n2 - i2) : right x i2 n2 = true := by
  unfold right at h ⊢
  simp only [Bool.and_eq_true] at h ⊢
  refine ⟨h.1, ?_⟩
  have h3 := h.2
  split
  · rename_i h0; rw [if_pos h0] at h3; exact h3
  · rename_i h0
    rw [if_neg h0] at h3
    split
    · rename_i h4; rw [if_pos h4] at h3; exact h3
    · rename_i h4
      rw [if_neg h4] at h3
      split
      · rename_i h5; rw [if_pos h5] at h3; exact h3
      · rename_i h5
        rw [if_neg h5] at h3
        split
        · rename_i h6
          rw [if_pos h6] at h3
          simp only [Bool.and_eq_true, decide_eq_true_eq] at h3 ⊢
          omega
        · rename_i h6; rw [if_neg h6] at h3; exact h3
theorem rights_of {p : List Ins} (h : AllR p) (pre post : Nat) : Rights pre p post := fun k x hx => by
  have hk := (List.getElem?_eq_some_iff.1 hx).1
  exact right_wide (h k x hx) (by omega) (by omega)
theorem rights_app {a b : List Ins} {pre post : Nat} : Rights pre (a ++ b) post ↔ Rights pre a (b.length + post) ∧ Rights (pre + a.length) b post := by
  constructor
  · intro h
    refine ⟨fun k x hx => ?_, fun k x hx => ?_⟩
    · have hk := (List.getElem?_eq_some_iff.1 hx).1
      have := h k x (by rw [List.getElem?_append_left hk]; exact hx)
      rw [List.length_append] at this
      rwa [show pre + (a.length + b.length) + post = pre + a.length + (b.length + post) by omega] at this
    · have := h (a.length + k) x (by rw [List.getElem?_append_right (by omega), Nat.add_sub_cancel_left]; exact hx)
      rw [List.length_append] at this
      rwa [show pre + (a.length + b.length) + post = pre + a.length + b.length + post by omega, ← Nat.add_assoc] at this
  · rintro ⟨h1, h2⟩ k x hx
    rcases Nat.lt_or_ge k a.length with hk | hk
    · rw [List.getElem?_append_left hk] at hx
      have := h1 k x hx
      rw [List.length_append, show pre + (a.length + b.length) + post = pre + a.length + (b.length + post) by omega]; exact this
    · rw [List.getElem?_append_right hk] at hx
      have := h2 _ x hx
      rw [List.length_append, show pre + (a.length + b.length) + post = pre + a.length + b.length + post by omega, show pre + k = pre + a.length + (k - a.length) by omega]; exact this
theorem rights_one {x : Ins} {pre post : Nat} : Rights pre [x] post ↔ right x (pre : Int) ((pre + 1 + post : Nat) : Int) = true := by
  unfold Rights
  constructor
  · intro h; exact h 0 x rfl
  · intro h k y hy
    cases k with
    | zero => simp at hy; subst hy; exact h
    | succ k => simp at hy
theorem rights_cons {x : Ins} {b : List Ins} {pre post : Nat} : Rights pre (x :: b) post ↔ right x (pre : Int) ((pre + 1 + (b.length + post) : Nat) : Int) = true ∧ Rights (pre + 1) b post := by
  rw [show x :: b = [x] ++ b from rfl, rights_app, rights_one]; rfl
theorem rights_nil {pre post : Nat} : Rights pre [] post := fun k x h => by simp at h
theorem vld_0 : vld [48] = true := by decide
theorem vld_100 : vld [49, 48, 48] = true := by decide
theorem right_set {a : Int} {t : List UInt8} {i n : Int} (h0 : 0 ≤ a) (h1 : a < 32) (ht : vld t = true) : right (setI a t) i n = true := by
  simp [right, setI, reg, h0, h1, ht]
theorem right_move {a b : Int} {i n : Int} (h0 : 0 ≤ a) (h1 : a < 32) (h2 : 0 ≤ b) (h3 : b < 32) : right (moveI a b) i n = true := by
  simp [right, moveI, reg, h0, h1, h2, h3]
theorem right_cons {a b c : Int} {i n : Int} (h0 : 0 ≤ a) (h1 : a < 32) (h2 : 0 ≤ b) (h3 : b < 32) (h4 : 0 ≤ c) (h5 : c < 32) : right (consI a b c) i n = true := by
  simp [right, consI, reg, h0, h1, h2, h3, h4, h5]
theorem right_jump {a b : Int} {i n : Int} (h0 : 0 ≤ a) (h1 : a < 32) (h2 : -i ≤ b) (h3 : b ≤ n - i) : right (jumpI a b) i n = true := by
  have e2 : decide (-i ≤ b) = true := decide_eq_true h2
  have e3 : decide (b ≤ n - i) = true := decide_eq_true h3
  unfold right jumpI reg
  dsimp only
  rw [e2, e3, decide_eq_true h0, decide_eq_true h1]; rfl
theorem rights_clean {m : Nat} (hm : m ≤ 32) (pre post : Nat) : Rights pre (cleanL m) post := fun k x hx => by
  unfold cleanL at hx
  rw [List.getElem?_map] at hx
  obtain ⟨i, hi, rfl⟩ := Option.map_eq_some_iff.1 hx
  have := List.mem_range.1 (List.mem_of_getElem? hi)
  exact right_set (by omega) (by omega) vld_0
theorem rights_behind {p : List Ins} (h : PValid p) (pre post : Nat) : Rights pre (behind p) post :=
  rights_app.2 ⟨rights_clean (rn_le h) _ _, rights_of h.2.2 _ _⟩
theorem allR_const {d : List UInt8} (h : vld d = true) : AllR [setI 0 d] := rights_all.1 (rights_one.2 (right_set (by omega) (by omega) h))
theorem rights_behinds : ∀ {l : List (List Ins)}, (∀ p ∈ l, PValid p) → ∀ (pre post : Nat), Rights pre (l.flatMap behind) post := by
  intro l
  induction l with
  | nil => intro _ pre post; exact rights_nil
  | cons p l ih => intro h pre post; rw [List.flatMap_cons]; exact rights_app.2 ⟨rights_behind (h p (by simp)) _ _, ih (fun q hq => h q (by simp [hq])) _ _⟩
theorem allR_then {l : List (List Ins)} (h : ∀ p ∈ l, PValid p) : AllR (thenL l) := by
  cases l with
  | nil => exact rights_all.1 rights_nil
  | cons p l =>
    exact rights_all.1 (rights_app.2 ⟨rights_of (h p (by simp)).2.2 _ _, rights_behinds (fun q hq => h q (by simp [hq])) _ _⟩)
theorem allR_pair {p q : List Ins} (hp : PValid p) (hq : PValid q) (h1 : rn p ≤ 28) (h2 : rn q ≤ 28) : AllR (pairL p q) := by
  unfold pairL
  refine rights_all.1 (rights_app.2 ⟨rights_app.2 ⟨rights_app.2 ⟨rights_app.2 ⟨rights_one.2 ?_, rights_of hp.2.2 _ _⟩, rights_cons.2 ⟨?_, rights_one.2 ?_⟩⟩, rights_behind hq _ _⟩, rights_one.2 ?_⟩)
  · exact right_move (by omega) (by omega) (by omega) (by omega)
  · exact right_move (by omega) (by omega) (by omega) (by omega)
  · exact right_move (by omega) (by omega) (by omega) (by omega)
  · exact right_cons (by omega) (by omega) (by omega) (by omega) (by omega) (by omega)
theorem allR_if {c p q : List Ins} (hc : PValid c) (hp : PValid p) (hq : PValid q) (h0 : rn c ≤ 28) (h1 : rn p ≤ 28) (h2 : rn q ≤ 28) : AllR (ifL c p q) := by
  unfold ifL
  refine rights_all.1 (rights_app.2 ⟨rights_app.2 ⟨rights_app.2 ⟨rights_app.2 ⟨rights_app.2 ⟨rights_one.2 ?_, rights_of hc.2.2 _ _⟩, rights_cons.2 ⟨?_, rights_one.2 ?_⟩⟩, rights_behind hq _ _⟩, rights_cons.2 ⟨?_, rights_cons.2 ⟨?_, rights_one.2 ?_⟩⟩⟩, rights_behind hp _ _⟩)
  · exact right_move (by omega) (by omega) (by omega) (by omega)
  · refine right_jump (by omega) (by omega) (by omega) ?_
    simp only [List.length_append, List.length_cons, List.length_nil]; omega
  · exact right_move (by omega) (by omega) (by omega) (by omega)
  · exact right_set (by omega) (by omega) vld_100
  · refine right_jump (by omega) (by omega) (by omega) ?_
    simp only [List.length_append, List.length_cons, List.length_nil]; omega
  · exact right_move (by omega) (by omega) (by omega) (by omega)
theorem allR_while {c p : List Ins} (hc : PValid c) (hp : PValid p) (h0 : rn c ≤ 28) (h1 : rn p ≤ 28) : AllR (whileL c p) := by
  unfold whileL
  refine rights_all.1 (rights_app.2 ⟨rights_app.2 ⟨rights_app.2 ⟨rights_app.2 ⟨rights_app.2 ⟨rights_one.2 ?_, rights_behind hc _ _⟩, rights_cons.2 ⟨?_, rights_cons.2 ⟨?_, rights_cons.2 ⟨?_, rights_cons.2 ⟨?_, rights_one.2 ?_⟩⟩⟩⟩⟩, rights_behind hp _ _⟩, rights_one.2 ?_⟩, rights_one.2 ?_⟩)
  · exact right_move (by omega) (by omega) (by omega) (by omega)
  · refine right_jump (by omega) (by omega) (by omega) ?_
    simp only [List.length_append, List.length_cons, List.length_nil]; omega
  · exact right_move (by omega) (by omega) (by omega) (by omega)
  · exact right_set (by omega) (by omega) vld_100
  · refine right_jump (by omega) (by omega) (by omega) ?_
    simp only [List.length_append, List.length_cons, List.length_nil]; omega
  · exact right_move (by omega) (by omega) (by omega) (by omega)
  · exact right_set (by omega) (by omega) vld_100
  · exact right_jump (by omega) (by omega) (by simp only [List.length_append, List.length_cons, List.length_nil]; omega) (by simp only [List.length_append, List.length_cons, List.length_nil]; omega)
/-- as to the limits -/
def FitsP (cs : List Ins) : Prop := cs.length ≤ 4000 ∧ trees cs ≤ 2000000
theorem fits_valid {cs : List Ins} (h : AllR cs) : PValid cs ↔ FitsP cs := ⟨fun h => ⟨h.1, h.2.1⟩, fun h1 => ⟨h1.1, h1.2, h⟩⟩
theorem trees_app (a b : List Ins) : trees (a ++ b) = trees a + trees b := by simp [trees]
end Go.Proofs.YtmhoacnbmbhcjaaGreatDoor

namespace Go.Proofs.YtmhoacnbmbhcjaaGreatDoor
open Go.RowKit Pl

theorem rdp_0 : rd [48] = .nil := rd_tx .nil
theorem rdp_100 : rd [49, 48, 48] = .pair .nil .nil := rd_tx (.pair .nil .nil)
theorem reg_of {s : St} {k : Int} {n : Nat} {t : Tr} (hk : k = (n : Int)) (h : s.regs[n]? = some t) : s.reg k = t := by
  subst hk; unfold St.reg; rw [Int.toNat_natCast, h]; rfl
theorem get_mid {A B cs : List Ins} {x : Ins} (hc : cs = A ++ x :: B) {s : St} (ha : s.at_ = A.length) : cs[s.at_]? = some x ∧ s.at_ ≠ cs.length := by
  subst hc; rw [ha]
  refine ⟨?_, by simp⟩
  rw [List.getElem?_append_right (Nat.le_refl _), Nat.sub_self]; rfl
/-- a state at place a with 32 registers -/
def At (a : Nat) (s : St) : Prop := s.at_ = a ∧ s.regs.length = 32
theorem do_put {A B cs : List Ins} {x : Ins} (hc : cs = A ++ x :: B) {s : St} (ha : At A.length s) {a : Int} {n : Nat} (hn : a = (n : Int)) (hlt : n < 32) {t : Tr} (h : stepI x s = some (s.put a t)) :
    ∃ s', Steps cs s 1 s' ∧ At (A.length + 1) s' ∧ s'.regs[n]? = some t ∧ ∀ r, r ≠ n → s'.regs[r]? = s.regs[r]? := by
  obtain ⟨h1, h2⟩ := get_mid hc ha.1
  refine ⟨s.put a t, .succ .zero h2 (by unfold stepP; rw [h1]; exact h), ⟨?_, ?_⟩, ?_, fun r hr => ?_⟩
  · show s.at_ + 1 = _; rw [ha.1]
  · simp [St.put, ha.2]
  · subst hn; simp [St.put, ha.2, hlt]
  · subst hn; simp only [St.put, Int.toNat_natCast]; rw [List.getElem?_set_ne (by omega)]
theorem do_set {A B cs : List Ins} {a : Int} {t : List UInt8} (hc : cs = A ++ setI a t :: B) {s : St} (ha : At A.length s) {n : Nat} (hn : a = (n : Int)) (hlt : n < 32) :
    ∃ s', Steps cs s 1 s' ∧ At (A.length + 1) s' ∧ s'.regs[n]? = some (rd t) ∧ ∀ r, r ≠ n → s'.regs[r]? = s.regs[r]? :=
  do_put hc ha hn hlt (by simp [stepI, setI])
theorem do_move {A B cs : List Ins} {a b : Int} (hc : cs = A ++ moveI a b :: B) {s : St} (ha : At A.length s) {n k : Nat} (hn : a = (n : Int)) (hlt : n < 32) (hk : b = (k : Int)) {t : Tr} (ht : s.regs[k]? = some t) :
    ∃ s', Steps cs s 1 s' ∧ At (A.length + 1) s' ∧ s'.regs[n]? = some t ∧ ∀ r, r ≠ n → s'.regs[r]? = s.regs[r]? :=
  do_put hc ha hn hlt (by simp only [stepI, moveI]; simp [reg_of hk ht])
theorem do_cons {A B cs : List Ins} {a b c : Int} (hc : cs = A ++ consI a b c :: B) {s : St} (ha : At A.length s) {n k l : Nat} (hn : a = (n : Int)) (hlt : n < 32) (hk : b = (k : Int)) (hl : c = (l : Int)) {t u : Tr} (ht : s.regs[k]? = some t) (hu : s.regs[l]? = some u) (hz : (tx (.pair t u)).length ≤ 2000000) :
    ∃ s', Steps cs s 1 s' ∧ At (A.length + 1) s' ∧ s'.regs[n]? = some (.pair t u) ∧ ∀ r, r ≠ n → s'.regs[r]? = s.regs[r]? :=
  do_put hc ha hn hlt (by simp only [stepI, consI]; simp [reg_of hk ht, reg_of hl hu, hz])
theorem no_cons {A B cs : List Ins} {a b c : Int} (hc : cs = A ++ consI a b c :: B) {s : St} (ha : At A.length s) {k l : Nat} (hk : b = (k : Int)) (hl : c = (l : Int)) {t u : Tr} (ht : s.regs[k]? = some t) (hu : s.regs[l]? = some u) (hz : 2000000 < (tx (.pair t u)).length) :
    s.at_ ≠ cs.length ∧ stepP cs s = none := by
  obtain ⟨h1, h2⟩ := get_mid hc ha.1
  refine ⟨h2, ?_⟩
  unfold stepP; rw [h1]
  have : ¬ (tx (.pair t u)).length ≤ 2000000 := by omega
  simp only [Option.bind_some, stepI, consI]
  simp [reg_of hk ht, reg_of hl hu, this]
theorem do_jump {A B cs : List Ins} {a b : Int} (hc : cs = A ++ jumpI a b :: B) {s : St} (ha : At A.length s) {n : Nat} (hn : a = (n : Int)) {t : Tr} (ht : s.regs[n]? = some t) (h0 : t ≠ .nil) {dst : Nat} (hto : (A.length : Int) + b = dst) :
    ∃ s', Steps cs s 1 s' ∧ At dst s' ∧ s'.regs = s.regs := by
  obtain ⟨h1, h2⟩ := get_mid hc ha.1
  refine ⟨⟨dst, s.regs⟩, .succ .zero h2 ?_, ⟨rfl, ha.2⟩, rfl⟩
  unfold stepP; rw [h1]
  simp only [Option.bind_some, stepI, jumpI]
  simp [reg_of hn ht, h0, ha.1, hto]
theorem no_jump {A B cs : List Ins} {a b : Int} (hc : cs = A ++ jumpI a b :: B) {s : St} (ha : At A.length s) {n : Nat} (hn : a = (n : Int)) (ht : s.regs[n]? = some .nil) :
    ∃ s', Steps cs s 1 s' ∧ At (A.length + 1) s' ∧ s'.regs = s.regs := by
  obtain ⟨h1, h2⟩ := get_mid hc ha.1
  refine ⟨⟨s.at_ + 1, s.regs⟩, .succ .zero h2 ?_, ⟨by show s.at_ + 1 = _; rw [ha.1], ha.2⟩, rfl⟩
  unfold stepP; rw [h1]
  simp only [Option.bind_some, stepI, jumpI]
  simp [reg_of hn ht]
theorem clean_run {A B cs : List Ins} {m : Nat} (hc : cs = A ++ cleanL m ++ B) (hm : m ≤ 32) {s : St} (ha : At A.length s) :
    ∀ j, j ≤ m - 1 → ∃ s', Steps cs s j s' ∧ At (A.length + j) s' ∧ (∀ r, r = 0 ∨ j + 1 ≤ r → s'.regs[r]? = s.regs[r]?) ∧ ∀ r, 1 ≤ r → r ≤ j → s'.regs[r]? = some .nil := by
  intro j
  induction j with
  | zero => intro _; exact ⟨s, .zero, ha, fun _ _ => rfl, fun r h1 h2 => absurd h1 (by omega)⟩
  | succ j ih =>
    intro hj
    obtain ⟨s1, h1, h2, h3, h4⟩ := ih (by omega)
    have hx : cs[A.length + j]? = some (setI ((j : Int) + 1) [48]) := by
      rw [get_in hc (by rw [cleanL_len]; omega)]
      unfold cleanL
      rw [List.getElem?_map, List.getElem?_range (by omega)]; rfl
    have hlt : A.length + j < cs.length := (List.getElem?_eq_some_iff.1 hx).1
    have hcs : cs = cs.take (A.length + j) ++ setI ((j : Int) + 1) [48] :: cs.drop (A.length + j + 1) := by
      have h5 := List.getElem?_eq_some_iff.1 hx
      rw [← h5.2, ← List.drop_eq_getElem_cons hlt, List.take_append_drop]
    have hln : (cs.take (A.length + j)).length = A.length + j := by rw [List.length_take]; omega
    obtain ⟨s2, k1, k2, k3, k4⟩ := do_set hcs (s := s1) (by rw [hln]; exact h2) (n := j + 1) (by omega) (by omega)
    rw [hln] at k2
    refine ⟨s2, h1.then k1, k2, fun r hr => ?_, fun r h5 h6 => ?_⟩
    · rw [k4 r (by omega)]; exact h3 r (by omega)
    · by_cases hr : r = j + 1
      · subst hr; rw [k3, rdp_0]
      · rw [k4 r hr]; exact h4 r h5 (by omega)
/-- a part at place a is about to run on y -/
structure Start (a m : Nat) (y : Tr) (s : St) : Prop where
  here : At a s
  r0 : s.regs[0]? = some y
  rest : ∀ r, 1 ≤ r → r < m → s.regs[r]? = some .nil
theorem first_reg {y : Tr} {r : Nat} (h : r < 31) : (first y).regs[r + 1]? = some .nil := by
  show (List.replicate 31 Tr.nil)[r]? = some .nil
  rw [List.getElem?_replicate, if_pos h]
theorem Start.sim {a m : Nat} {y : Tr} {s : St} (h : Start a m y s) (hm : m ≤ 32) : Sim a m s.regs (first y) s where
  at_ := by rw [h.here.1]; rfl
  len := by simp [first]
  len' := h.here.2
  low := fun r hr => by
    cases r with
    | zero => rw [h.r0]; rfl
    | succ r => rw [h.rest (r + 1) (by omega) hr, first_reg (by omega)]
  high := fun _ _ => rfl
theorem start_first (y : Tr) (m : Nat) (hm : m ≤ 32) : Start 0 m y (first y) where
  here := ⟨rfl, by simp [first]⟩
  r0 := rfl
  rest := fun r h1 h2 => by
    obtain ⟨r, rfl⟩ : ∃ k, r = k + 1 := ⟨r - 1, by omega⟩
    exact first_reg (by omega)

/-- a run by the runs of its parts, as the law keeps it -/
structure PlS where
  x : List UInt8
  n : Nat
  e : Int
def PlS.other (k : Nat) (a : PlS) : PlS := if a.e = 0 then { a with n := a.n + k } else a
noncomputable def PlS.part (p : List Ins) (y : List UInt8) (a : PlS) : List UInt8 × PlS :=
  if a.e = 0 then
    match out p 2000 (first (rd y)) with
    | .ok z k => (tx z, { a with n := a.n + k })
    | .size => ([], { a with n := a.n + 2000, e := 3 })
    | .fuel => ([], { a with n := a.n + 2000, e := 7 })
  else ([], a)
noncomputable def PlS.cleaned (p : List Ins) (y : List UInt8) (a : PlS) : List UInt8 × PlS := PlS.part p y (PlS.other (rn p - 1) a)
def Bad (cs : List Ins) (s0 : St) (a : PlS) : Prop := (a.e = 3 ∧ out cs a.n s0 = .size) ∨ (a.e = 7 ∧ out cs a.n s0 = .fuel)
def EndsP (cs : List Ins) (s0 : St) (a : PlS) : Prop := (a.e = 0 ∧ ∃ z, a.x = tx z ∧ out cs a.n s0 = .ok z a.n) ∨ Bad cs s0 a
theorem Bad.ne {cs : List Ins} {s0 : St} {a : PlS} (h : Bad cs s0 a) : a.e ≠ 0 := by rcases h with h | h <;> omega
theorem Bad.other {cs : List Ins} {s0 : St} {a : PlS} (h : Bad cs s0 a) (k : Nat) : a.other k = a := if_neg h.ne
theorem Bad.part {cs : List Ins} {s0 : St} {a : PlS} (h : Bad cs s0 a) (p : List Ins) (y : List UInt8) : a.part p y = ([], a) := if_neg h.ne
theorem Bad.cleaned {cs : List Ins} {s0 : St} {a : PlS} (h : Bad cs s0 a) (p : List Ins) (y : List UInt8) : a.cleaned p y = ([], a) := by unfold PlS.cleaned; rw [h.other, h.part]
theorem Bad.x {cs : List Ins} {s0 : St} {a : PlS} (h : Bad cs s0 a) (x : List UInt8) : Bad cs s0 { a with x := x } := h
theorem other_ok {a : PlS} (h : a.e = 0) (k : Nat) : a.other k = { a with n := a.n + k } := if_pos h
/-- a part, in its place -/
theorem play_part {A p B cs : List Ins} (hc : cs = A ++ p ++ B) (hv : PValid p) {s0 s : St} {a : PlS} (h0 : a.e = 0) (hs : Steps cs s0 a.n s) {y : Tr} (hy : (tx y).length ≤ 2000000) (hst : Start A.length (rn p) y s) :
    (∃ z k s', (a.part p (tx y)) = (tx z, { a with n := a.n + k }) ∧ (tx z).length ≤ 2000000 ∧ k ≤ 2000 ∧ Steps cs s0 (a.n + k) s' ∧ At (A.length + p.length) s' ∧ s'.regs[0]? = some z ∧ ∀ r, rn p ≤ r → s'.regs[r]? = s.regs[r]?) ∨
    ((a.part p (tx y)).1 = [] ∧ Bad cs s0 (a.part p (tx y)).2) := by
  have hm : regs p ≤ (rn p : Nat) := by rw [rn_eq]; exact Int.le_refl _
  have hf := first_ok p.length hy
  have hsim := hst.sim (rn_le hv)
  unfold PlS.part
  rw [if_pos h0, rd_tx]
  cases ho : out p 2000 (first y) with
  | ok z k =>
    obtain ⟨h1, s', h2, h3, h4, h5, h6⟩ := part_ok hc hv hm hsim hf ho
    refine .inl ⟨z, k, s', rfl, ?_, h1, hs.then h2, ⟨h3, h4⟩, h5, h6⟩
    obtain ⟨t, g1, _, _, g4⟩ := out_ok ho
    rw [← g4]
    exact St.reg_le (g1.ok hv hf) 0
  | size =>
    refine .inr ⟨rfl, .inl ⟨rfl, ?_⟩⟩
    show out cs (a.n + 2000) s0 = .size
    rw [out_steps hs, part_size hc hv hm hsim hf ho]; rfl
  | fuel =>
    refine .inr ⟨rfl, .inr ⟨rfl, ?_⟩⟩
    show out cs (a.n + 2000) s0 = .fuel
    rw [out_steps hs, part_fuel hc hv hm hsim hf ho]; rfl
/-- a part behind its cleaning, in its place -/
theorem play_cleaned {A p B cs : List Ins} (hc : cs = A ++ behind p ++ B) (hv : PValid p) {s0 s : St} {a : PlS} (h0 : a.e = 0) (hs : Steps cs s0 a.n s) {y : Tr} (hy : (tx y).length ≤ 2000000) (ha : At A.length s) (hr0 : s.regs[0]? = some y) :
    (∃ z k s', (a.cleaned p (tx y)) = (tx z, { a with n := a.n + (rn p - 1) + k }) ∧ (tx z).length ≤ 2000000 ∧ k ≤ 2000 ∧ Steps cs s0 (a.n + (rn p - 1) + k) s' ∧ At (A.length + (behind p).length) s' ∧ s'.regs[0]? = some z ∧ ∀ r, rn p ≤ r → s'.regs[r]? = s.regs[r]?) ∨
    ((a.cleaned p (tx y)).1 = [] ∧ Bad cs s0 (a.cleaned p (tx y)).2) := by
  unfold PlS.cleaned
  rw [other_ok h0]
  have hp := rn_pos p
  have hc1 : cs = A ++ cleanL (rn p) ++ (p ++ B) := by rw [hc]; simp [behind]
  have hc2 : cs = (A ++ cleanL (rn p)) ++ p ++ B := by rw [hc]; simp [behind]
  obtain ⟨s1, k1, k2, k3, k4⟩ := clean_run hc1 (rn_le hv) ha (rn p - 1) (Nat.le_refl _)
  have hln : (A ++ cleanL (rn p)).length = A.length + (rn p - 1) := by rw [List.length_append, cleanL_len]
  have hst : Start (A ++ cleanL (rn p)).length (rn p) y s1 := ⟨by rw [hln]; exact k2, by rw [k3 0 (.inl rfl)]; exact hr0, fun r h1 h2 => k4 r h1 (by omega)⟩
  rcases play_part hc2 hv (a := { a with n := a.n + (rn p - 1) }) h0 (hs.then k1) hy hst with ⟨z, k, s', g1, g2, g3, g4, g5, g6, g7⟩ | h
  · refine .inl ⟨z, k, s', g1, g2, g3, g4, ?_, g6, fun r hr => by rw [g7 r hr, k3 r (.inr (by omega))]⟩
    rw [hln] at g5
    have : A.length + (behind p).length = A.length + (rn p - 1) + p.length := by unfold behind; rw [List.length_append, cleanL_len]; omega
    rw [this]; exact g5
  · exact .inr h

noncomputable def playThen (c p q : List Ins) (x : List UInt8) : PlS :=
  let r1 := PlS.part c x ⟨[], 0, 0⟩
  let r2 := r1.2.cleaned p r1.1
  let r3 := r2.2.cleaned q r2.1
  { r3.2 with x := r3.1 }
theorem ends_then {c p q : List Ins} (hc : PValid c) (hp : PValid p) (hq : PValid q) {x : Tr} (hx : (tx x).length ≤ 2000000) : EndsP (thenL [c, p, q]) (first x) (playThen c p q (tx x)) := by
  have e1 : thenL [c, p, q] = [] ++ c ++ (behind p ++ behind q) := by simp [thenL]
  have e2 : thenL [c, p, q] = c ++ behind p ++ behind q := by simp [thenL]
  have e3 : thenL [c, p, q] = (c ++ behind p) ++ behind q ++ [] := by simp [thenL]
  unfold playThen
  rcases play_part e1 hc (a := ⟨[], 0, 0⟩) rfl .zero hx (start_first x _ (rn_le hc)) with ⟨y, k, s1, f1, f2, f3, f4, f5, f6, f7⟩ | ⟨f1, f2⟩
  · simp only [f1]
    simp only [List.length_nil, Nat.zero_add] at f5
    rcases play_cleaned e2 hp (a := ⟨[], 0 + k, 0⟩) rfl f4 f2 f5 f6 with ⟨z, l, s2, g1, g2, g3, g4, g5, g6, g7⟩ | ⟨g1, g2⟩
    · simp only [g1]
      have hl : (c ++ behind p).length = c.length + (behind p).length := List.length_append
      rcases play_cleaned e3 hq (a := ⟨[], 0 + k + (rn p - 1) + l, 0⟩) rfl g4 g2 (by rw [hl]; exact g5) g6 with ⟨u, m, s3, i1, i2, i3, i4, i5, i6, i7⟩ | ⟨i1, i2⟩
      · simp only [i1]
        refine .inl ⟨rfl, u, rfl, ?_⟩
        have hend : s3.at_ = (thenL [c, p, q]).length := by rw [i5.1, e3]; simp only [List.length_append, List.length_nil] <;> omega
        rw [out_end i4 (Nat.le_refl _) hend]
        congr 1
        exact reg_of rfl i6
      · exact .inr (i2.x _)
    · simp only [g1, g2.cleaned]
      exact .inr (g2.x _)
  · simp only [f1, f2.cleaned]
    exact .inr (f2.x _)

noncomputable def playPair (p q : List Ins) (x : List UInt8) : PlS :=
  let r1 := PlS.part p x ⟨[], 1, 0⟩
  let a1 := r1.2.other 2
  let r2 := a1.cleaned q x
  let a2 := r2.2.other 1
  let a3 : PlS := { a2 with x := 49 :: (r1.1 ++ r2.1) }
  if a3.e = 0 ∧ 2000000 < a3.x.length then { a3 with e := 3 } else a3
theorem ends_pair {p q : List Ins} (hp : PValid p) (hq : PValid q) (h1 : rn p ≤ 28) (h2 : rn q ≤ 28) {x : Tr} (hx : (tx x).length ≤ 2000000) : EndsP (pairL p q) (first x) (playPair p q (tx x)) := by
  generalize hn : max (rn p) (rn q) = n
  have e0 : pairL p q = [moveI (n : Int) 0] ++ p ++ [moveI ((n : Int) + 1) 0, moveI (0 : Int) n] ++ behind q ++ [consI 0 ((n : Int) + 1) 0] := by unfold pairL; rw [hn]
  generalize hcs : pairL p q = cs at *
  have c1 : cs = [] ++ moveI (n : Int) 0 :: (p ++ [moveI ((n : Int) + 1) 0, moveI (0 : Int) n] ++ behind q ++ [consI 0 ((n : Int) + 1) 0]) := by rw [e0]; simp
  have c2 : cs = [moveI (n : Int) 0] ++ p ++ ([moveI ((n : Int) + 1) 0, moveI (0 : Int) n] ++ behind q ++ [consI 0 ((n : Int) + 1) 0]) := by rw [e0]; simp
  have c3 : cs = ([moveI (n : Int) 0] ++ p) ++ moveI ((n : Int) + 1) 0 :: ([moveI (0 : Int) n] ++ behind q ++ [consI 0 ((n : Int) + 1) 0]) := by rw [e0]; simp
  have c4 : cs = ([moveI (n : Int) 0] ++ p ++ [moveI ((n : Int) + 1) 0]) ++ moveI (0 : Int) n :: (behind q ++ [consI 0 ((n : Int) + 1) 0]) := by rw [e0]; simp
  have c5 : cs = ([moveI (n : Int) 0] ++ p ++ [moveI ((n : Int) + 1) 0, moveI (0 : Int) n]) ++ behind q ++ [consI 0 ((n : Int) + 1) 0] := by rw [e0]
  have c6 : cs = ([moveI (n : Int) 0] ++ p ++ [moveI ((n : Int) + 1) 0, moveI (0 : Int) n] ++ behind q) ++ consI 0 ((n : Int) + 1) 0 :: [] := by rw [e0]
  have hnp : rn p ≤ n := by omega
  have hnq : rn q ≤ n := by omega
  have hp1 := rn_pos p
  have st0 := start_first x 32 (Nat.le_refl _)
  obtain ⟨s1, k1, k2, k3, k4⟩ := do_move c1 st0.here (n := n) rfl (by omega) (k := 0) rfl st0.r0
  have hst : Start ([moveI (n : Int) 0] : List Ins).length (rn p) x s1 := ⟨k2, by rw [k4 0 (by omega)]; exact st0.r0, fun r g1 g2 => by rw [k4 r (by omega)]; exact st0.rest r g1 (by omega)⟩
  unfold playPair
  rcases play_part c2 hp (a := ⟨[], 1, 0⟩) rfl k1 hx hst with ⟨y, k, s2, f1, f2, f3, f4, f5, f6, f7⟩ | ⟨f1, f2⟩
  · simp only [f1]
    have hl3 : ([moveI (n : Int) 0] ++ p : List Ins).length = ([moveI (n : Int) 0] : List Ins).length + p.length := List.length_append
    obtain ⟨s3, m1, m2, m3, m4⟩ := do_move c3 (s := s2) (by rw [hl3]; exact f5) (n := n + 1) (by omega) (by omega) (k := 0) rfl f6
    have hl4 : ([moveI (n : Int) 0] ++ p ++ [moveI ((n : Int) + 1) 0] : List Ins).length = ([moveI (n : Int) 0] ++ p : List Ins).length + 1 := by simp only [List.length_append, List.length_cons, List.length_nil] <;> omega
    have hxn : s3.regs[n]? = some x := by rw [m4 n (by omega), f7 n hnp, k3]
    obtain ⟨s4, n1, n2, n3, n4⟩ := do_move c4 (s := s3) (by rw [hl4]; exact m2) (n := 0) rfl (by omega) (k := n) rfl hxn
    have hl5 : ([moveI (n : Int) 0] ++ p ++ [moveI ((n : Int) + 1) 0, moveI (0 : Int) n] : List Ins).length = ([moveI (n : Int) 0] ++ p ++ [moveI ((n : Int) + 1) 0] : List Ins).length + 1 := by simp only [List.length_append, List.length_cons, List.length_nil] <;> omega
    rw [other_ok (a := ⟨[], 1 + k, 0⟩) rfl]
    rcases play_cleaned c5 hq (a := ⟨[], 1 + k + 2, 0⟩) rfl ((f4.then m1).then n1) hx (by rw [hl5]; exact n2) n3 with ⟨z, l, s5, g1, g2, g3, g4, g5, g6, g7⟩ | ⟨g1, g2⟩
    · simp only [g1]
      rw [other_ok rfl]
      have hl6 : ([moveI (n : Int) 0] ++ p ++ [moveI ((n : Int) + 1) 0, moveI (0 : Int) n] ++ behind q : List Ins).length = ([moveI (n : Int) 0] ++ p ++ [moveI ((n : Int) + 1) 0, moveI (0 : Int) n] : List Ins).length + (behind q).length := List.length_append
      have hyn : s5.regs[n + 1]? = some y := by rw [g7 (n + 1) (by omega), n4 (n + 1) (by omega), m3]
      have htx : (49 :: (tx y ++ tx z)) = tx (.pair y z) := rfl
      rw [htx]
      by_cases hz : (tx (.pair y z)).length ≤ 2000000
      · rw [if_neg (by show ¬ (_ ∧ 2000000 < (tx (.pair y z)).length); omega)]
        obtain ⟨s6, o1, o2, o3, o4⟩ := do_cons c6 (s := s5) (by rw [hl6]; exact g5) (n := 0) rfl (by omega) (k := n + 1) (l := 0) (by omega) rfl hyn g6 hz
        refine .inl ⟨rfl, .pair y z, rfl, ?_⟩
        have hend : s6.at_ = cs.length := by rw [o2.1, c6]; simp only [List.length_append, List.length_cons, List.length_nil] <;> omega
        rw [out_end (g4.then o1) (Nat.le_refl _) hend]
        congr 1
        exact reg_of rfl o3
      · rw [if_pos ⟨rfl, by show 2000000 < (tx (.pair y z)).length; omega⟩]
        obtain ⟨o1, o2⟩ := no_cons c6 (s := s5) (by rw [hl6]; exact g5) (k := n + 1) (l := 0) (by omega) rfl hyn g6 (by omega)
        exact .inr (.inl ⟨rfl, out_large g4 (Nat.lt_succ_self _) o1 o2⟩)
    · simp only [g1, g2.other]
      rw [if_neg (fun h => g2.ne h.1)]
      exact .inr (g2.x _)
  · simp only [f1, f2.other, f2.cleaned]
    rw [if_neg (fun h => f2.ne h.1)]
    exact .inr (f2.x _)

noncomputable def playIf (c p q : List Ins) (x : List UInt8) : PlS :=
  let r1 := PlS.part c x ⟨[], 1, 0⟩
  let a1 := r1.2.other 2
  if r1.1 ≠ [48] then
    let r2 := a1.cleaned p x
    { r2.2 with x := r2.1 }
  else
    let r2 := a1.cleaned q x
    ({ r2.2 with x := r2.1 } : PlS).other 2
theorem ends_if {c p q : List Ins} (hc : PValid c) (hp : PValid p) (hq : PValid q) (h0 : rn c ≤ 28) (h1 : rn p ≤ 28) (h2 : rn q ≤ 28) {x : Tr} (hx : (tx x).length ≤ 2000000) : EndsP (ifL c p q) (first x) (playIf c p q (tx x)) := by
  generalize hn : max (max (rn c) (rn p)) (rn q) = n
  generalize hu : ((behind q).length : Int) + 4 = u
  generalize hw : ((behind p).length : Int) + 2 = w
  have e0 : ifL c p q = [moveI (n : Int) 0] ++ c ++ [jumpI 0 u, moveI (0 : Int) n] ++ behind q ++ [setI n [49, 48, 48], jumpI n w, moveI (0 : Int) n] ++ behind p := by unfold ifL; rw [hn, hu, hw]
  generalize hcs : ifL c p q = cs at *
  have c1 : cs = [] ++ moveI (n : Int) 0 :: (c ++ [jumpI 0 u, moveI (0 : Int) n] ++ behind q ++ [setI n [49, 48, 48], jumpI n w, moveI (0 : Int) n] ++ behind p) := by rw [e0]; simp
  have c2 : cs = [moveI (n : Int) 0] ++ c ++ ([jumpI 0 u, moveI (0 : Int) n] ++ behind q ++ [setI n [49, 48, 48], jumpI n w, moveI (0 : Int) n] ++ behind p) := by rw [e0]; simp
  have c3 : cs = ([moveI (n : Int) 0] ++ c) ++ jumpI 0 u :: ([moveI (0 : Int) n] ++ behind q ++ [setI n [49, 48, 48], jumpI n w, moveI (0 : Int) n] ++ behind p) := by rw [e0]; simp
  have c4 : cs = ([moveI (n : Int) 0] ++ c ++ [jumpI 0 u]) ++ moveI (0 : Int) n :: (behind q ++ [setI n [49, 48, 48], jumpI n w, moveI (0 : Int) n] ++ behind p) := by rw [e0]; simp
  have c5 : cs = ([moveI (n : Int) 0] ++ c ++ [jumpI 0 u, moveI (0 : Int) n]) ++ behind q ++ ([setI n [49, 48, 48], jumpI n w, moveI (0 : Int) n] ++ behind p) := by rw [e0]; simp
  have c6 : cs = ([moveI (n : Int) 0] ++ c ++ [jumpI 0 u, moveI (0 : Int) n] ++ behind q) ++ setI n [49, 48, 48] :: ([jumpI n w, moveI (0 : Int) n] ++ behind p) := by rw [e0]; simp
  have c7 : cs = ([moveI (n : Int) 0] ++ c ++ [jumpI 0 u, moveI (0 : Int) n] ++ behind q ++ [setI n [49, 48, 48]]) ++ jumpI n w :: ([moveI (0 : Int) n] ++ behind p) := by rw [e0]; simp
  have c8 : cs = ([moveI (n : Int) 0] ++ c ++ [jumpI 0 u, moveI (0 : Int) n] ++ behind q ++ [setI n [49, 48, 48], jumpI n w]) ++ moveI (0 : Int) n :: (behind p) := by rw [e0]; simp
  have c9 : cs = ([moveI (n : Int) 0] ++ c ++ [jumpI 0 u, moveI (0 : Int) n] ++ behind q ++ [setI n [49, 48, 48], jumpI n w, moveI (0 : Int) n]) ++ behind p ++ [] := by rw [e0]; simp
  have hnc : rn c ≤ n := by omega
  have hnp : rn p ≤ n := by omega
  have hnq : rn q ≤ n := by omega
  have hp1 := rn_pos c
  have st0 := start_first x 32 (Nat.le_refl _)
  obtain ⟨s1, k1, k2, k3, k4⟩ := do_move c1 st0.here (n := n) rfl (by omega) (k := 0) rfl st0.r0
  have hst : Start ([moveI (n : Int) 0] : List Ins).length (rn c) x s1 := ⟨k2, by rw [k4 0 (by omega)]; exact st0.r0, fun r g1 g2 => by rw [k4 r (by omega)]; exact st0.rest r g1 (by omega)⟩
  unfold playIf
  rcases play_part c2 hc (a := ⟨[], 1, 0⟩) rfl k1 hx hst with ⟨y, k, s2, f1, f2, f3, f4, f5, f6, f7⟩ | ⟨f1, f2⟩
  · simp only [f1]
    have hl3 : ([moveI (n : Int) 0] ++ c : List Ins).length = ([moveI (n : Int) 0] : List Ins).length + c.length := List.length_append
    have hxn : s2.regs[n]? = some x := by rw [f7 n hnc, k3]
    rw [other_ok rfl]
    by_cases hy : y = .nil
    · subst hy
      rw [if_neg (by show ¬ tx .nil ≠ [48]; simp [tx])]
      obtain ⟨s3, m1, m2, m3⟩ := no_jump c3 (s := s2) (by rw [hl3]; exact f5) (n := 0) rfl f6
      have hl4 : ([moveI (n : Int) 0] ++ c ++ [jumpI 0 u] : List Ins).length = ([moveI (n : Int) 0] ++ c : List Ins).length + 1 := by simp only [List.length_append, List.length_cons, List.length_nil] <;> omega
      obtain ⟨s4, n1, n2, n3, n4⟩ := do_move c4 (s := s3) (by rw [hl4]; exact m2) (n := 0) rfl (by omega) (k := n) rfl (by rw [m3]; exact hxn)
      have hl5 : ([moveI (n : Int) 0] ++ c ++ [jumpI 0 u, moveI (0 : Int) n] : List Ins).length = ([moveI (n : Int) 0] ++ c ++ [jumpI 0 u] : List Ins).length + 1 := by simp only [List.length_append, List.length_cons, List.length_nil] <;> omega
      rcases play_cleaned c5 hq (a := ⟨[], 1 + k + 2, 0⟩) rfl ((f4.then m1).then n1) hx (by rw [hl5]; exact n2) n3 with ⟨z, l, s5, g1, g2, g3, g4, g5, g6, g7⟩ | ⟨g1, g2⟩
      · simp only [g1]
        rw [other_ok rfl]
        have hl6 : ([moveI (n : Int) 0] ++ c ++ [jumpI 0 u, moveI (0 : Int) n] ++ behind q : List Ins).length = ([moveI (n : Int) 0] ++ c ++ [jumpI 0 u, moveI (0 : Int) n] : List Ins).length + (behind q).length := List.length_append
        obtain ⟨s6, o1, o2, o3, o4⟩ := do_set c6 (s := s5) (by rw [hl6]; exact g5) (n := n) rfl (by omega)
        rw [rdp_100] at o3
        have hl7 : ([moveI (n : Int) 0] ++ c ++ [jumpI 0 u, moveI (0 : Int) n] ++ behind q ++ [setI n [49, 48, 48]] : List Ins).length = ([moveI (n : Int) 0] ++ c ++ [jumpI 0 u, moveI (0 : Int) n] ++ behind q : List Ins).length + 1 := by simp only [List.length_append, List.length_cons, List.length_nil] <;> omega
        obtain ⟨s7, q1, q2, q3⟩ := do_jump c7 (s := s6) (by rw [hl7]; exact o2) (n := n) rfl o3 (by simp) (dst := cs.length) (by rw [c7, ← hw]; simp only [List.length_append, List.length_cons, List.length_nil]; omega)
        refine .inl ⟨rfl, z, rfl, ?_⟩
        rw [out_end ((g4.then o1).then q1) (Nat.le_refl _) q2.1]
        congr 1
        exact reg_of (n := 0) rfl (by rw [q3, o4 0 (by omega)]; exact g6)
      · simp only [g1]
        rw [(g2.x []).other]
        exact .inr (g2.x _)
    · have hy2 : tx y ≠ [48] := fun h => hy (tx_inj (b := .nil) h)
      rw [if_pos hy2]
      obtain ⟨s3, m1, m2, m3⟩ := do_jump c3 (s := s2) (by rw [hl3]; exact f5) (n := 0) rfl f6 hy (dst := ([moveI (n : Int) 0] ++ c ++ [jumpI 0 u, moveI (0 : Int) n] ++ behind q ++ [setI n [49, 48, 48], jumpI n w] : List Ins).length) (by rw [← hu]; simp only [List.length_append, List.length_cons, List.length_nil]; omega)
      obtain ⟨s4, n1, n2, n3, n4⟩ := do_move c8 (s := s3) m2 (n := 0) rfl (by omega) (k := n) rfl (by rw [m3]; exact hxn)
      have hl9 : ([moveI (n : Int) 0] ++ c ++ [jumpI 0 u, moveI (0 : Int) n] ++ behind q ++ [setI n [49, 48, 48], jumpI n w, moveI (0 : Int) n] : List Ins).length = ([moveI (n : Int) 0] ++ c ++ [jumpI 0 u, moveI (0 : Int) n] ++ behind q ++ [setI n [49, 48, 48], jumpI n w] : List Ins).length + 1 := by simp only [List.length_append, List.length_cons, List.length_nil] <;> omega
      rcases play_cleaned c9 hp (a := ⟨[], 1 + k + 2, 0⟩) rfl ((f4.then m1).then n1) hx (by rw [hl9]; exact n2) n3 with ⟨z, l, s5, g1, g2, g3, g4, g5, g6, g7⟩ | ⟨g1, g2⟩
      · simp only [g1]
        refine .inl ⟨rfl, z, rfl, ?_⟩
        have hend : s5.at_ = cs.length := by rw [g5.1, c9]; simp only [List.length_append, List.length_cons, List.length_nil]; omega
        rw [out_end g4 (Nat.le_refl _) hend]
        congr 1
        exact reg_of rfl g6
      · exact .inr (g2.x _)
  · simp only [f1, f2.other]
    rw [if_pos (by simp)]
    simp only [f2.cleaned]
    exact .inr (f2.x _)
end Go.Proofs.YtmhoacnbmbhcjaaGreatDoor

namespace Go.Proofs.YtmhoacnbmbhcjaaGreatDoor
open Go.RowKit Pl

/-- one round: what is kept, and whether it was the last one -/
noncomputable def playRound (c p : List Ins) (a : PlS) : PlS × Bool :=
  let r1 := (a.other 1).cleaned c a.x
  let a1 := r1.2.other 2
  if r1.1 = [48] then (a1.other 2, true)
  else
    let r2 := a1.cleaned p a.x
    let a2 := r2.2.other 2
    (if a2.e = 0 then { a2 with x := r2.1 } else a2, false)
theorem other_x (a : PlS) (k : Nat) : (a.other k).x = a.x := by unfold PlS.other; split <;> rfl
theorem part_x (a : PlS) (p : List Ins) (y : List UInt8) : (a.part p y).2.x = a.x := by
  unfold PlS.part
  split
  · split <;> rfl
  · rfl
theorem cleaned_x (a : PlS) (p : List Ins) (y : List UInt8) : (a.cleaned p y).2.x = a.x := by unfold PlS.cleaned; rw [part_x, other_x]
def LInv (cs : List Ins) (s0 : St) (a : PlS) : Prop := (a.e = 0 ∧ ∃ x s, a.x = tx x ∧ (tx x).length ≤ 2000000 ∧ Steps cs s0 a.n s ∧ At 0 s ∧ s.regs[0]? = some x) ∨ Bad cs s0 a
theorem whileL_at {c p : List Ins} {n : Nat} {u w : Int} (hn : max (rn c) (rn p) = n) (hu : ((behind p).length : Int) + 4 = u)
    (hw : -((([moveI (n : Int) 0] ++ behind c ++ [jumpI 0 4, moveI 0 n, setI n [49, 48, 48], jumpI n u, moveI 0 n] ++ behind p ++ [setI n [49, 48, 48]] : List Ins).length : Int)) = w) :
    whileL c p = [moveI (n : Int) 0] ++ behind c ++ [jumpI 0 4, moveI 0 n, setI n [49, 48, 48], jumpI n u, moveI 0 n] ++ behind p ++ [setI n [49, 48, 48]] ++ [jumpI n w] := by
  unfold whileL; rw [hn, hu, ← hw]
/-- a round, at the place at which it begins -/
theorem round_is {c p : List Ins} (hc : PValid c) (hp : PValid p) (h0 : rn c ≤ 28) (h1 : rn p ≤ 28) {s0 s : St} {a : PlS} {x : Tr} (hax : a.x = tx x) (hx : (tx x).length ≤ 2000000) (he : a.e = 0) (hs : Steps (whileL c p) s0 a.n s) (ha : At 0 s) (hr : s.regs[0]? = some x) :
    ((playRound c p a).2 = true ∧ EndsP (whileL c p) s0 (playRound c p a).1) ∨ ((playRound c p a).2 = false ∧ LInv (whileL c p) s0 (playRound c p a).1) := by
  obtain ⟨ax, an, ae⟩ := a
  obtain rfl : ax = tx x := hax
  obtain rfl : ae = 0 := he
  generalize hn : max (rn c) (rn p) = n
  generalize hu : ((behind p).length : Int) + 4 = u
  generalize hw : -((([moveI (n : Int) 0] ++ behind c ++ [jumpI 0 4, moveI 0 n, setI n [49, 48, 48], jumpI n u, moveI 0 n] ++ behind p ++ [setI n [49, 48, 48]] : List Ins).length : Int)) = w
  have e0 := whileL_at hn hu hw
  generalize hcs : whileL c p = cs at *
  have c1 : cs = [] ++ moveI (n : Int) 0 :: (behind c ++ [jumpI 0 4, moveI 0 n, setI n [49, 48, 48], jumpI n u, moveI 0 n] ++ behind p ++ [setI n [49, 48, 48]] ++ [jumpI n w]) := by rw [e0]; simp
  have c2 : cs = [moveI (n : Int) 0] ++ behind c ++ ([jumpI 0 4, moveI 0 n, setI n [49, 48, 48], jumpI n u, moveI 0 n] ++ behind p ++ [setI n [49, 48, 48]] ++ [jumpI n w]) := by rw [e0]; simp
  have c3 : cs = ([moveI (n : Int) 0] ++ behind c) ++ jumpI 0 4 :: ([moveI 0 n, setI n [49, 48, 48], jumpI n u, moveI 0 n] ++ behind p ++ [setI n [49, 48, 48]] ++ [jumpI n w]) := by rw [e0]; simp
  have c4 : cs = ([moveI (n : Int) 0] ++ behind c ++ [jumpI 0 4]) ++ moveI 0 n :: ([setI n [49, 48, 48], jumpI n u, moveI 0 n] ++ behind p ++ [setI n [49, 48, 48]] ++ [jumpI n w]) := by rw [e0]; simp
  have c5 : cs = ([moveI (n : Int) 0] ++ behind c ++ [jumpI 0 4, moveI 0 n]) ++ setI n [49, 48, 48] :: ([jumpI n u, moveI 0 n] ++ behind p ++ [setI n [49, 48, 48]] ++ [jumpI n w]) := by rw [e0]; simp
  have c6 : cs = ([moveI (n : Int) 0] ++ behind c ++ [jumpI 0 4, moveI 0 n, setI n [49, 48, 48]]) ++ jumpI n u :: ([moveI 0 n] ++ behind p ++ [setI n [49, 48, 48]] ++ [jumpI n w]) := by rw [e0]; simp
  have c7 : cs = ([moveI (n : Int) 0] ++ behind c ++ [jumpI 0 4, moveI 0 n, setI n [49, 48, 48], jumpI n u]) ++ moveI 0 n :: (behind p ++ [setI n [49, 48, 48]] ++ [jumpI n w]) := by rw [e0]; simp
  have c8 : cs = ([moveI (n : Int) 0] ++ behind c ++ [jumpI 0 4, moveI 0 n, setI n [49, 48, 48], jumpI n u, moveI 0 n]) ++ behind p ++ ([setI n [49, 48, 48]] ++ [jumpI n w]) := by rw [e0]; simp
  have c9 : cs = ([moveI (n : Int) 0] ++ behind c ++ [jumpI 0 4, moveI 0 n, setI n [49, 48, 48], jumpI n u, moveI 0 n] ++ behind p) ++ setI n [49, 48, 48] :: [jumpI n w] := by rw [e0]; simp
  have c10 : cs = ([moveI (n : Int) 0] ++ behind c ++ [jumpI 0 4, moveI 0 n, setI n [49, 48, 48], jumpI n u, moveI 0 n] ++ behind p ++ [setI n [49, 48, 48]]) ++ jumpI n w :: [] := by rw [e0]
  have l3 : ([moveI (n : Int) 0] ++ behind c : List Ins).length = ([moveI (n : Int) 0] : List Ins).length + (behind c).length := List.length_append
  have l4 : ([moveI (n : Int) 0] ++ behind c ++ [jumpI 0 4] : List Ins).length = ([moveI (n : Int) 0] ++ behind c : List Ins).length + 1 := by simp only [List.length_append, List.length_cons, List.length_nil] <;> omega
  have l5 : ([moveI (n : Int) 0] ++ behind c ++ [jumpI 0 4, moveI 0 n] : List Ins).length = ([moveI (n : Int) 0] ++ behind c ++ [jumpI 0 4] : List Ins).length + 1 := by simp only [List.length_append, List.length_cons, List.length_nil] <;> omega
  have l6 : ([moveI (n : Int) 0] ++ behind c ++ [jumpI 0 4, moveI 0 n, setI n [49, 48, 48]] : List Ins).length = ([moveI (n : Int) 0] ++ behind c ++ [jumpI 0 4, moveI 0 n] : List Ins).length + 1 := by simp only [List.length_append, List.length_cons, List.length_nil] <;> omega
  have l8 : ([moveI (n : Int) 0] ++ behind c ++ [jumpI 0 4, moveI 0 n, setI n [49, 48, 48], jumpI n u, moveI 0 n] : List Ins).length = ([moveI (n : Int) 0] ++ behind c ++ [jumpI 0 4, moveI 0 n, setI n [49, 48, 48], jumpI n u] : List Ins).length + 1 := by simp only [List.length_append, List.length_cons, List.length_nil] <;> omega
  have l9 : ([moveI (n : Int) 0] ++ behind c ++ [jumpI 0 4, moveI 0 n, setI n [49, 48, 48], jumpI n u, moveI 0 n] ++ behind p : List Ins).length = ([moveI (n : Int) 0] ++ behind c ++ [jumpI 0 4, moveI 0 n, setI n [49, 48, 48], jumpI n u, moveI 0 n] : List Ins).length + (behind p).length := List.length_append
  have l10 : ([moveI (n : Int) 0] ++ behind c ++ [jumpI 0 4, moveI 0 n, setI n [49, 48, 48], jumpI n u, moveI 0 n] ++ behind p ++ [setI n [49, 48, 48]] : List Ins).length = ([moveI (n : Int) 0] ++ behind c ++ [jumpI 0 4, moveI 0 n, setI n [49, 48, 48], jumpI n u, moveI 0 n] ++ behind p : List Ins).length + 1 := by simp only [List.length_append, List.length_cons, List.length_nil] <;> omega
  have hnc : rn c ≤ n := by omega
  have hnp : rn p ≤ n := by omega
  have hp1 := rn_pos c
  obtain ⟨s1, k1, k2, k3, k4⟩ := do_move c1 ha (n := n) rfl (by omega) (k := 0) rfl hr
  unfold playRound
  rw [other_ok (a := ⟨tx x, an, 0⟩) rfl]
  rcases play_cleaned c2 hc (a := ⟨tx x, an + 1, 0⟩) rfl (hs.then k1) hx k2 (by rw [k4 0 (by omega)]; exact hr) with ⟨y, k, s2, f1, f2, f3, f4, f5, f6, f7⟩ | ⟨f1, f2⟩
  · simp only [f1]
    have hxn : s2.regs[n]? = some x := by rw [f7 n hnc, k3]
    rw [other_ok (a := ⟨tx x, an + 1 + (rn c - 1) + k, 0⟩) rfl]
    by_cases hy : y = .nil
    · subst hy
      rw [if_pos (show tx .nil = [48] from rfl)]
      obtain ⟨s3, m1, m2, m3⟩ := no_jump c3 (s := s2) (by rw [l3]; exact f5) (n := 0) rfl f6
      obtain ⟨s4, n1, n2, n3, n4⟩ := do_move c4 (s := s3) (by rw [l4]; exact m2) (n := 0) rfl (by omega) (k := n) rfl (by rw [m3]; exact hxn)
      obtain ⟨s5, o1, o2, o3, o4⟩ := do_set c5 (s := s4) (by rw [l5]; exact n2) (n := n) rfl (by omega)
      rw [rdp_100] at o3
      obtain ⟨s6, q1, q2, q3⟩ := do_jump c6 (s := s5) (by rw [l6]; exact o2) (n := n) rfl o3 (by simp) (dst := cs.length) (by rw [c6, ← hu]; simp only [List.length_append, List.length_cons, List.length_nil]; omega)
      rw [other_ok (a := ⟨tx x, an + 1 + (rn c - 1) + k + 2, 0⟩) rfl]
      refine .inl ⟨rfl, .inl ⟨rfl, x, rfl, ?_⟩⟩
      rw [out_end ((((f4.then m1).then n1).then o1).then q1) (Nat.le_refl _) q2.1]
      congr 1
      exact reg_of (n := 0) rfl (by rw [q3, o4 0 (by omega)]; exact n3)
    · have hy2 : tx y ≠ [48] := fun h => hy (tx_inj (b := .nil) h)
      rw [if_neg hy2]
      obtain ⟨s3, m1, m2, m3⟩ := do_jump c3 (s := s2) (by rw [l3]; exact f5) (n := 0) rfl f6 hy (dst := ([moveI (n : Int) 0] ++ behind c ++ [jumpI 0 4, moveI 0 n, setI n [49, 48, 48], jumpI n u] : List Ins).length) (by simp only [List.length_append, List.length_cons, List.length_nil]; omega)
      obtain ⟨s4, n1, n2, n3, n4⟩ := do_move c7 (s := s3) m2 (n := 0) rfl (by omega) (k := n) rfl (by rw [m3]; exact hxn)
      rcases play_cleaned c8 hp (a := ⟨tx x, an + 1 + (rn c - 1) + k + 2, 0⟩) rfl ((f4.then m1).then n1) hx (by rw [l8]; exact n2) n3 with ⟨z, l, s5, g1, g2, g3, g4, g5, g6, g7⟩ | ⟨g1, g2⟩
      · simp only [g1]
        rw [other_ok (a := ⟨tx x, an + 1 + (rn c - 1) + k + 2 + (rn p - 1) + l, 0⟩) rfl]
        obtain ⟨s6, o1, o2, o3, o4⟩ := do_set c9 (s := s5) (by rw [l9]; exact g5) (n := n) rfl (by omega)
        rw [rdp_100] at o3
        obtain ⟨s7, q1, q2, q3⟩ := do_jump c10 (s := s6) (by rw [l10]; exact o2) (n := n) rfl o3 (by simp) (dst := 0) (by rw [← hw]; omega)
        refine .inr ⟨by trivial, .inl ?_⟩
        exact ⟨rfl, z, s7, rfl, g2, (g4.then o1).then q1, q2, by rw [q3, o4 0 (by omega)]; exact g6⟩
      · simp only [g2.other]
        refine .inr ⟨by trivial, .inr ?_⟩
        show Bad cs s0 (if _ then _ else _)
        rw [if_neg g2.ne]; exact g2
  · simp only [f1, f2.other]
    rw [if_neg (by simp)]
    simp only [f2.cleaned, f2.other]
    refine .inr ⟨by trivial, .inr ?_⟩
    show Bad cs s0 (if _ then _ else _)
    rw [if_neg f2.ne]; exact f2
theorem part_n (a : PlS) (p : List Ins) (y : List UInt8) : (a.part p y).2.n ≤ a.n + 2000 := by
  unfold PlS.part
  split
  · cases ho : out p 2000 (first (rd y)) with
    | ok z k =>
      obtain ⟨_, _, h, _⟩ := out_ok ho
      show a.n + k ≤ _
      omega
    | size => exact Nat.le_refl _
    | fuel => exact Nat.le_refl _
  · show a.n ≤ _; omega
theorem other_n (a : PlS) (k : Nat) : (a.other k).n ≤ a.n + k := by
  unfold PlS.other
  split
  · exact Nat.le_refl _
  · omega
theorem cleaned_n (a : PlS) (p : List Ins) (y : List UInt8) (h : rn p ≤ 32) : (a.cleaned p y).2.n ≤ a.n + 2031 := by
  unfold PlS.cleaned
  have := part_n (a.other (rn p - 1)) p y
  have := other_n a (rn p - 1)
  omega
theorem round_n {c p : List Ins} (h0 : rn c ≤ 32) (h1 : rn p ≤ 32) (a : PlS) : (playRound c p a).1.n ≤ a.n + 4100 := by
  unfold playRound
  generalize hr1 : (a.other 1).cleaned c a.x = r1
  have e1 : r1.2.n ≤ a.n + 2032 := by
    have := cleaned_n (a.other 1) c a.x h0
    have := other_n a 1
    rw [← hr1]; omega
  have e2 := other_n r1.2 2
  simp only
  split
  · have := other_n (r1.2.other 2) 2
    show ((r1.2.other 2).other 2).n ≤ _
    omega
  · have e3 := cleaned_n (r1.2.other 2) p a.x h1
    have e4 := other_n ((r1.2.other 2).cleaned p a.x).2 2
    simp only
    split
    · show (((r1.2.other 2).cleaned p a.x).2.other 2).n ≤ _
      omega
    · omega
theorem loop_start (c p : List Ins) {x : Tr} (hx : (tx x).length ≤ 2000000) : LInv (whileL c p) (first x) ⟨tx x, 0, 0⟩ :=
  .inl ⟨rfl, x, first x, rfl, hx, .zero, ⟨rfl, by simp [first]⟩, rfl⟩
theorem loop_over {c p : List Ins} {s0 : St} {a : PlS} (h : LInv (whileL c p) s0 a) : EndsP (whileL c p) s0 (if a.e = 0 then { a with e := 7 } else a) := by
  rcases h with ⟨he, x, s, _, _, hs, ha, _⟩ | h
  · rw [if_pos he]
    refine .inr (.inr ⟨rfl, out_fuel hs ?_⟩)
    rw [ha.1]
    intro h
    have : 0 < (whileL c p).length := by unfold whileL; simp
    omega
  · rw [if_neg h.ne]; exact .inr h
end Go.Proofs.YtmhoacnbmbhcjaaGreatDoor

namespace Go.Proofs.YtmhoacnbmbhcjaaGreatDoor
open Go.RowKit Pl

theorem tree_le {ps : List Ins} : ∀ x ∈ ps, x.tree.length ≤ trees ps := by
  induction ps with
  | nil => intro x hx; cases hx
  | cons y ps ih =>
    intro x hx
    have e : trees (y :: ps) = y.tree.length + trees ps := by simp [trees]
    rw [e]
    rcases List.mem_cons.1 hx with rfl | hx
    · omega
    · have := ih x hx; omega
set_option maxHeartbeats 1600000 in
set_option maxRecDepth 100000 in
theorem PRegs_some (w : World) (b off cap : Nat) (ps : List Ins) (hc : ProgAt w b off ps) (h0 : 0 < ps.length) (hp : PValid ps) :
    Calls Tryz.prog 72 #[.slice (some ⟨b, off, none⟩) ps.length cap] w fun e w' => e = .returned (.tuple #[.int .i64 (regs ps), .int .i64 0]) ∧ Below w.heap.size w w' := by
  have hl := hp.1
  have HV := Lib.hid (CV_arg w (.slice (some ⟨b, off, none⟩) ps.length cap) ps true (.inr ⟨h0, b, off, cap, rfl, hc⟩) (by omega) (fun x hx => by
    have := hp.2.1
    have := tree_le x hx
    omega) (by simp [hp]))
  have HR : Hid (∀ (k : Nat) (x : Ins), ps[k]? = some x → right x k ps.length = true) := Lib.hid hp.2.2
  generalize hnn : ps.length = n at *
  have HN := Lib.hid hnn; have HC := Lib.hid hc
  have hbw : b < w.heap.size := hc.1
  clear hc hp hnn h0
  go_enter Tryz.func72, Tryz.ntmps72
  go_wp2_with fail
  refine HV.out.mono ?_
  rintro e w1 ⟨rfl, h1⟩
  clear HV
  go_wp2
  go_loopw [4, 12] (fun v i wr => ∃ k : Nat, k ≤ n ∧ i = .int .i64 k ∧ (∃ r : Int, v = .int .i64 r ∧ 0 ≤ r ∧ r ≤ 100000 ∧ Hid (r + 1 = regsTo ps k)) ∧ Below w.heap.size w wr) (fun _ i _ => n - (intOf i).toNat)
  case atStart => exact ⟨0, Nat.zero_le _, rfl, ⟨0, rfl, by omega, by omega, Lib.hid rfl⟩, h1⟩
  case round =>
    clear h1
    obtain ⟨k, hk, rfl, ⟨r, rfl, hr0, hr1, hrr⟩, hb⟩ := hrel
    have hsz := hb.size
    by_cases hlt : k < n
    · obtain ⟨x, hx⟩ := get_at (ps := ps) (k := k) (by rw [HN.out]; exact hlt)
      have hk1 : (k : Int) < (n : Int) := by omega
      obtain ⟨a0, a1, a2, a3, a4⟩ := HC.out.2 k x hx
      have k0 := (hb.cell (p := ⟨b, off + k * 5, none⟩) hbw).trans a0
      have k1 := (hb.cell (p := ⟨b, off + k * 5 + 1, none⟩) hbw).trans a1
      have k2 := (hb.cell (p := ⟨b, off + k * 5 + 2, none⟩) hbw).trans a2
      have k3 := (hb.cell (p := ⟨b, off + k * 5 + 3, none⟩) hbw).trans a3
      have k4 := (hb.cell (p := ⟨b, off + k * 5 + 4, none⟩) hbw).trans a4
      obtain ⟨⟨xa0, xa1⟩, ⟨xb0, xb1⟩, ⟨xd0, xd1⟩, _⟩ := right_small (HR.out k x hx) (by omega) (by omega) (by omega)
      have HT := Lib.hid (regsTo_succ hx)
      have HB5 := Lib.hid (hb.alloc hsz (.cells #[.int .i64 x.op, .int .i64 x.a, .int .i64 x.b, .int .i64 x.c, .string (S x.tree)] 64))
      clear hx a0 a1 a2 a3 a4 hb
      by_cases h5 : x.op = 5
      · have HX : Hid (max r x.a + 1 = regsTo ps (k + 1)) := Lib.hid (by rw [HT.out, ← hrr.out]; unfold rstep; rw [if_pos h5]; omega)
        rw [h5] at k0 HB5
        clear h5
        go_wp2
        go_roundw
        case rel => exact ⟨k + 1, by omega, by go_num, ⟨_, rfl, by omega, by omega, HX⟩, HB5.out⟩
        case measure => simp [intOf]; omega
      · have h6 : (x.op != 5) = true := by rw [bne_iff_ne]; exact h5
        have HX : Hid (max (max (max r x.a) x.b) x.c + 1 = regsTo ps (k + 1)) := Lib.hid (by rw [HT.out, ← hrr.out]; unfold rstep; rw [if_neg h5]; omega)
        clear h5
        go_wp2
        go_roundw
        case rel => exact ⟨k + 1, by omega, by go_num, ⟨_, rfl, by rw [max_if, max_if]; omega, by rw [max_if, max_if]; omega, Lib.hid (by rw [max_if, max_if]; exact HX.out)⟩, HB5.out⟩
        case measure => simp [intOf]; omega
    · have HT := Lib.hid (regsTo_all (ps := ps) (k := k) (by rw [HN.out]; omega))
      have HU : Hid (r + 1 = regs ps) := Lib.hid (hrr.out.trans HT.out)
      have HB := Lib.hid hb
      go_wp2
      go_ret2
      exact ⟨by rw [← HU.out]; rfl, HB.out⟩

theorem pvalid_nil : PValid [] := ⟨by simp, by simp [trees], fun k x h => by simp at h⟩
set_option maxHeartbeats 1600000 in
set_option maxRecDepth 100000 in
theorem PRegs_none (w : World) (a : Option Addr) (cap : Nat) :
    Calls Tryz.prog 72 #[.slice a 0 cap] w fun e w' => e = .returned (.tuple #[.int .i64 1, .int .i64 0]) ∧ Below w.heap.size w w' := by
  go_enter Tryz.func72, Tryz.ntmps72
  go_wp2_with fail
  refine (CV_none _ a cap).mono ?_
  rintro e w1 ⟨rfl, h1⟩
  go_wp2
  go_loopw [4, 12] (fun v i wr => v = .int .i64 0 ∧ i = .int .i64 0 ∧ Below w.heap.size w wr) (fun _ _ _ => 0)
  case atStart => exact ⟨rfl, rfl, h1⟩
  case round =>
    clear h1
    obtain ⟨rfl, rfl, hb⟩ := hrel
    go_wp2
    go_ret2
    exact ⟨rfl, hb⟩
set_option maxHeartbeats 1600000 in
set_option maxRecDepth 100000 in
theorem PRegs_bad (w : World) (v : Value) (ps : List Ins) (h : ArgP w v ps) (hl : ps.length ≤ 281474976710656) (hz : ∀ x ∈ ps, x.tree.length ≤ 281474976710656) (hr : ¬ PValid ps) :
    Calls Tryz.prog 72 #[v] w fun e w' => e = .returned (.tuple #[.int .i64 0, .int .i64 1]) ∧ Below w.heap.size w w' := by
  have HV := Lib.hid (CV_arg w v ps false h hl hz (by simp [hr]))
  clear h hl hz hr
  go_enter Tryz.func72, Tryz.ntmps72
  go_wp2_with fail
  refine HV.out.mono ?_
  rintro e w1 ⟨rfl, h1⟩
  go_wp2
  go_ret2
  exact ⟨rfl, h1⟩
theorem PRegs_arg (w : World) (v : Value) (ps : List Ins) (h : ArgP w v ps) (hv : PValid ps) :
    Calls Tryz.prog 72 #[v] w fun e w' => e = .returned (.tuple #[.int .i64 (regs ps), .int .i64 0]) ∧ Below w.heap.size w w' := by
  rcases h with ⟨rfl, h⟩ | ⟨h0, b1, off, cap, rfl, hc⟩
  · obtain ⟨a, cap, rfl⟩ := empty_arg h
    exact PRegs_none w a cap
  · exact PRegs_some w b1 off cap ps hc h0 hv
end Go.Proofs.YtmhoacnbmbhcjaaGreatDoor
