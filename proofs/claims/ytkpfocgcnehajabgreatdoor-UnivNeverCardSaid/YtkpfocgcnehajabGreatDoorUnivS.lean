/- The universal program runs the program whose code it is given. By an AI agent. -/
import Derived.Test.YtkpfocgcnehajabGreatDoorUnivM
namespace Go.Proofs.YtkpfocgcnehajabGreatDoor
open Go.RowKit Pl

/-- the code of an instruction, of a program, as trees -/
noncomputable def payT (x : Ins) : Tr :=
  if x.op = 0 then rd x.tree
  else if x.op = 2 then .pair (numT x.b.toNat) (numT x.c.toNat)
  else if x.op = 5 then (if x.b < 0 then .pair (.pair .nil .nil) (numT (-x.b).toNat) else .pair .nil (numT x.b.toNat))
  else numT x.b.toNat
noncomputable def codeT (x : Ins) : Tr := .pair (numT x.op.toNat) (.pair (numT x.a.toNat) (payT x))
noncomputable def codeL (ps : List Ins) : List Tr := ps.map codeT
theorem tx_numT : ∀ n : Nat, tx (numT n) = num n
  | 0 => rfl
  | n + 1 => by rw [num_succ, ← tx_numT n]; rfl
theorem tx_codeT {x : Ins} {i n : Int} (h : right x i n = true) : tx (codeT x) = codeOf x := by
  have hr : ∀ a b, tx (.pair a b) = pr (tx a) (tx b) := fun a b => rfl
  unfold codeT codeOf payT body
  rw [hr, hr, tx_numT, tx_numT]
  by_cases h0 : x.op = 0
  · have hv : vld x.tree = true := by unfold right at h; simp [h0] at h; exact h.2.2
    simp only [if_pos h0]; rw [tx_rd hv]
  · by_cases h2 : x.op = 2
    · simp only [if_neg h0, if_pos h2]; rw [hr, tx_numT, tx_numT]
    · by_cases h5 : x.op = 5
      · simp only [if_neg h0, if_neg h2, if_pos h5]
        by_cases hb : x.b < 0
        · simp only [if_pos hb]; rw [hr, tx_numT]; rfl
        · simp only [if_neg hb]; rw [hr, tx_numT]; rfl
      · simp only [if_neg h0, if_neg h2, if_neg h5]; rw [tx_numT]
theorem tx_lst : ∀ l : List Tr, tx (lst l) = enc (l.map tx)
  | [] => rfl
  | a :: l => by
    show 49 :: (tx a ++ tx (lst l)) = _
    rw [tx_lst l]; rfl
theorem tx_code {ps : List Ins} (h : AllR ps) : tx (lst (codeL ps)) = enc (codes ps) := by
  rw [tx_lst]
  unfold codeL codes
  rw [List.map_map]
  congr 1
  refine List.map_congr_left fun x hx => ?_
  obtain ⟨k, hk⟩ := List.mem_iff_getElem?.1 hx
  exact tx_codeT (h k x hk)
/-- how many characters some trees have together -/
def totT (l : List Tr) : Nat := (l.map fun t => (tx t).length).sum
theorem lst_size (l : List Tr) : (tx (lst l)).length = 1 + l.length + totT l := by
  induction l with
  | nil => rfl
  | cons a l ih => rw [tx_lst_cons, ih]; simp [totT]; omega
theorem totT_take (l : List Tr) (k : Nat) : totT (l.take k) ≤ totT l := by
  have h : totT l = totT (l.take k) + totT (l.drop k) := by
    conv => lhs; rw [← List.take_append_drop k l]
    simp only [totT, List.map_append, List.sum_append]
  omega
theorem totT_mem {l : List Tr} {t : Tr} (h : t ∈ l) : (tx t).length ≤ totT l := by
  induction l with
  | nil => cases h
  | cons a l ih =>
    rcases List.mem_cons.1 h with rfl | h
    · simp [totT]
    · have := ih h; simp [totT] at this ⊢; omega
/-- the list of registers that stands for the registers of a state -/
def Regd (l : List Tr) (s : St) : Prop := l.length ≤ 32 ∧ ∀ r, l.getD r .nil = s.regs.getD r .nil
theorem Regd.take {l : List Tr} {s : St} (h : Regd l s) (h32 : s.regs.length = 32) : l = s.regs.take l.length := by
  refine List.ext_getElem? fun r => ?_
  have h1 := h.2 r
  by_cases hr : r < l.length
  · have h2 : r < s.regs.length := by have := h.1; omega
    rw [List.getElem?_take_of_lt hr, List.getElem?_eq_getElem hr, List.getElem?_eq_getElem h2]
    rw [List.getD_eq_getElem?_getD, List.getD_eq_getElem?_getD, List.getElem?_eq_getElem hr, List.getElem?_eq_getElem h2] at h1
    simpa using h1
  · rw [List.getElem?_eq_none (by omega), List.getElem?_eq_none (by rw [List.length_take]; omega)]
theorem Regd.size {l : List Tr} {s : St} (h : Regd l s) (h32 : s.regs.length = 32) : (tx (lst l)).length ≤ 33 + totT s.regs := by
  rw [lst_size]
  have h1 := totT_take s.regs l.length
  rw [← h.take h32] at h1
  have := h.1
  omega
theorem Regd.reg {l : List Tr} {s : St} (h : Regd l s) {k : Int} {n : Nat} (hk : k = (n : Int)) : l.getD n .nil = s.reg k := by
  subst hk
  rw [h.2 n]; simp [St.reg]
theorem rv_rev : ∀ (n : Nat) (l bf : List Tr), (rv n l bf).reverse = bf.reverse ++ (List.range n).map fun r => l.getD r .nil
  | 0, l, bf => by simp [rv]
  | n + 1, l, bf => by
    show (rv n l.tail (l.headD .nil :: bf)).reverse = _
    rw [rv_rev n, List.range_succ_eq_map, List.map_cons, List.map_map, List.reverse_cons, List.append_assoc]
    congr 1
    show [l.headD .nil] ++ _ = _
    rw [List.singleton_append]
    congr 1
    · cases l <;> rfl
    · refine List.map_congr_left fun r _ => ?_
      cases l <;> simp
theorem rv_size : ∀ (n : Nat) (l bf : List Tr), (tx (lst (rv n l bf))).length + (tx (lst (l.drop n))).length ≤ (tx (lst l)).length + (tx (lst bf)).length + 2 * n
  | 0, l, bf => by simp [rv]; omega
  | n + 1, l, bf => by
    have h := rv_size n l.tail (l.headD .nil :: bf)
    rw [show l.tail.drop n = l.drop (n + 1) from by cases l <;> simp] at h
    rw [tx_lst_cons] at h
    show (tx (lst (rv n l.tail (l.headD .nil :: bf)))).length + _ ≤ _
    cases l with
    | nil => simp [lst, tx] at h ⊢; omega
    | cons a l => rw [tx_lst_cons]; simp only [List.tail_cons, List.headD_cons] at h ⊢; omega
theorem rv_len (n : Nat) (l : List Tr) : (rv n l []).length = n := by
  have h := congrArg List.length (rv_rev n l [])
  simpa using h
/-- the list with another tree as one of its elements -/
def setU (l : List Tr) (n : Nat) (v : Tr) : List Tr := (rv n l []).reverse ++ v :: (l.drop n).tail
theorem setU_get (l : List Tr) (n : Nat) (v : Tr) (r : Nat) : (setU l n v).getD r .nil = if r = n then v else l.getD r .nil := by
  unfold setU
  rw [rv_rev, List.reverse_nil, List.nil_append, List.getD_eq_getElem?_getD]
  by_cases h : r < n
  · rw [List.getElem?_append_left (by simpa using h), if_neg (by omega), List.getElem?_map, List.getElem?_range h]; rfl
  · rw [List.getElem?_append_right (by simpa using h)]
    simp only [List.length_map, List.length_range]
    by_cases e : r = n
    · subst e; simp
    · rw [if_neg e]
      obtain ⟨q, hq⟩ : ∃ q, r - n = q + 1 := ⟨r - n - 1, by omega⟩
      rw [hq, List.getElem?_cons_succ, List.tail_drop, List.getElem?_drop, List.getD_eq_getElem?_getD]
      congr 2; omega
theorem setU_len {l : List Tr} {n : Nat} (v : Tr) (h : l.length ≤ 32) (hn : n < 32) : (setU l n v).length ≤ 32 := by
  unfold setU
  simp only [List.length_append, List.length_reverse, rv_len, List.length_cons, List.length_tail, List.length_drop]
  omega
theorem Regd.put {l : List Tr} {s : St} (h : Regd l s) {k : Int} {n : Nat} (hk : k = (n : Int)) (hn : n < 32) (h32 : s.regs.length = 32) (v : Tr) : Regd (setU l n v) (s.put k v) := by
  subst hk
  refine ⟨setU_len v h.1 hn, fun r => ?_⟩
  rw [setU_get]
  show _ = (s.regs.set (n : Int).toNat v).getD r .nil
  simp only [Int.toNat_natCast]
  have e2 : (s.regs.set n v).getD r .nil = if r = n then v else s.regs.getD r .nil := by
    rw [List.getD_eq_getElem?_getD, List.getElem?_set, List.getD_eq_getElem?_getD]
    by_cases e : r = n
    · subst e; simp [h32, hn]
    · rw [if_neg e, if_neg (Ne.symm e)]
  rw [e2, h.2 r]
/-- the universal program is about to run the instruction at which s stands -/
def AtU (ps : List Ins) (s : St) (u : St) : Prop :=
  ∃ l ar it va ta op se ye, u = us 102 (lst l) ar it va ta (lst ((codeL ps).drop s.at_)) .nil (lst ((codeL ps).take s.at_).reverse) op se ye ∧ ye ≠ .nil ∧ Regd l s
theorem drop_at {ps : List Ins} {k : Nat} {x : Ins} (h : ps[k]? = some x) : (codeL ps).drop k = codeT x :: (codeL ps).drop (k + 1) ∧ ((codeL ps).take (k + 1)).reverse = codeT x :: ((codeL ps).take k).reverse := by
  obtain ⟨hk, rfl⟩ := List.getElem?_eq_some_iff.1 h
  have hk2 : k < (codeL ps).length := by simpa [codeL] using hk
  have e : (codeL ps)[k] = codeT ps[k] := by simp [codeL]
  exact ⟨by rw [List.drop_eq_getElem_cons hk2, e], by rw [List.take_succ_eq_append_getElem hk2, e]; simp⟩
theorem code_split (cd : List Tr) (k : Nat) : (tx (lst (cd.drop k))).length + (tx (lst (cd.take k).reverse)).length = (tx (lst cd)).length + 1 := by
  rw [lst_size, lst_size, lst_size]
  have h : totT cd = totT (cd.take k) + totT (cd.drop k) := by
    conv => lhs; rw [← List.take_append_drop k cd]
    simp only [totT, List.map_append, List.sum_append]
  have h2 : totT (cd.take k).reverse = totT (cd.take k) := by simp [totT, List.sum_reverse]
  have h3 : (cd.take k).length + (cd.drop k).length = cd.length := by rw [← List.length_append, List.take_append_drop]
  rw [List.length_reverse]
  omega
section
variable {B : Prop} {ar it va ta op se ye : Tr}
/-- the value is put into its register, and the next instruction is the one to run -/
theorem store_run (hy : ye ≠ .nil) (l : List Tr) (n : Nat) (v c r : Tr) (dn : List Tr) (hn : n < 32) (hz : ¬ B → (tx (lst l)).length + (tx v).length ≤ 1000000) (hz2 : ¬ B → (tx c).length + (tx (lst dn)).length ≤ 1000000) :
    ∃ k it', k ≤ 300 ∧ 0 < k ∧ Go B k (us 86 (lst l) ar it v (numT n) (.pair c r) .nil (lst dn) op se ye) (us 102 (lst (setU l n v)) ar it' v .nil r .nil (lst (c :: dn)) op se ye) := by
  have hp := tx_pos (lst l)
  obtain ⟨i1, k1⟩ := loopS (B := B) (ar := ar) (va := v) (re := .pair c r) (dn := lst dn) (op := op) (se := se) (ye := ye) n l [] (it := it) (fun hb => by have := hz hb; show _ + 1 + _ ≤ _; omega)
  have hrv := rv_size n l []
  have k2 := (u86y (B := B) (rg := lst l) (ar := ar) (it := it) (va := v) (ta := numT n) (re := .pair c r) (be := lst []) (dn := lst dn) (op := op) (se := se) hy).trans k1
  have k3 := k2.trans u92
  rw [tl_lst] at k3
  have hsz : ¬ B → (tx (lst (v :: (l.drop n).tail))).length + (tx (lst (rv n l []))).length ≤ 2000001 := fun hb => by
    have h1 := hz hb
    have h2 : (tx (lst (l.drop n).tail)).length ≤ (tx (lst (l.drop n))).length := by
      rw [← tl_lst]; exact tlT_le _
    rw [tx_lst_cons]
    change _ ≤ _ + 1 + 2 * n at hrv
    omega
  have k4 := k3.trans (u93 (fun hb => by
    have h1 := hsz hb; have h2 := tx_pos (lst (rv n l []))
    rw [tx_lst_cons] at h1; rw [tx_pair]; omega))
  have k5 := k4.trans (u94y hy)
  obtain ⟨i2, k6⟩ := loopB (B := B) (ar := ar) (va := v) (ta := .nil) (re := .pair c r) (dn := lst dn) (op := op) (se := se) (ye := ye) (rv n l []) (v :: (l.drop n).tail) (it := i1) (fun hb => by have := hsz hb; omega)
  have k7 := k5.trans k6
  have k8 := k7.trans (u99.trans (u100 (fun hb => by
    have h1 := hz2 hb; have := tx_pos (lst dn)
    rw [tx_pair]; show 1 + (tx c).length + _ ≤ _; omega)))
  have k9 := k8.trans u101
  refine ⟨_, _, ?_, ?_, k9⟩
  · rw [rv_len]; omega
  · omega
end
theorem right_op {x : Ins} {i n : Int} (h : right x i n = true) : (∃ q : Nat, q < 32 ∧ x.a = (q : Int)) ∧ (x.op = 0 ∨ (x.op = 1 ∨ x.op = 3 ∨ x.op = 4) ∧ (∃ q : Nat, q < 32 ∧ x.b = (q : Int)) ∨ x.op = 2 ∧ (∃ q : Nat, q < 32 ∧ x.b = (q : Int)) ∧ (∃ q : Nat, q < 32 ∧ x.c = (q : Int)) ∨ x.op = 5 ∧ -i ≤ x.b ∧ x.b ≤ n - i) := by
  have hg : ∀ {n : Int}, reg n = true → ∃ q : Nat, q < 32 ∧ n = (q : Int) := fun {n} hr => by
    have := reg_true hr; exact ⟨n.toNat, by omega, by omega⟩
  unfold right at h
  simp only [Bool.and_eq_true] at h
  refine ⟨hg h.1.1.1, ?_⟩
  have h9 := h.2
  by_cases h0 : x.op = 0
  · exact .inl h0
  · rw [if_neg h0] at h9
    by_cases h1 : x.op = 1 ∨ x.op = 3 ∨ x.op = 4
    · rw [if_pos h1] at h9; exact .inr (.inl ⟨h1, hg h9⟩)
    · rw [if_neg h1] at h9
      by_cases h2 : x.op = 2
      · rw [if_pos h2] at h9; simp only [Bool.and_eq_true] at h9; exact .inr (.inr (.inl ⟨h2, hg h9.1, hg h9.2⟩))
      · rw [if_neg h2] at h9
        by_cases h5 : x.op = 5
        · rw [if_pos h5] at h9; simp only [Bool.and_eq_true, decide_eq_true_eq] at h9; exact .inr (.inr (.inr ⟨h5, h9⟩))
        · rw [if_neg h5] at h9; cases h9
/-- what bounds the trees while an instruction is run -/
def Small (B : Prop) (ps : List Ins) (s : St) : Prop := ¬ B → (tx (lst (codeL ps))).length ≤ 200000 ∧ totT s.regs ≤ 200000
theorem sim_put {B : Prop} {ps : List Ins} {s u : St} {x : Ins} {l : List Tr} {ar it v op se ye : Tr} {k0 a : Nat} (hs : s.ok ps.length) (hx : ps[s.at_]? = some x) (hl : Regd l s) (hy : ye ≠ .nil) (ha : x.a = (a : Int)) (h32 : a < 32) (hk0 : k0 ≤ 300)
    (h : Go B k0 u (us 86 (lst l) ar it v (numT x.a.toNat) (lst (codeT x :: (codeL ps).drop (s.at_ + 1))) .nil (lst ((codeL ps).take s.at_).reverse) op se ye)) (hB : Small B ps s) (hB2 : Small B ps (s.put x.a v)) :
    ∃ k u', k ≤ 5 * ps.length + 700 ∧ 0 < k ∧ Go B k u u' ∧ AtU ps (s.put x.a v) u' := by
  obtain ⟨hd1, hd2⟩ := drop_at hx
  have hcs := code_split (codeL ps) s.at_
  rw [hd1, tx_lst_cons] at hcs
  have hv : (tx v).length ≤ totT (s.put x.a v).regs := totT_mem (by
    show v ∈ s.regs.set x.a.toNat v
    exact List.mem_iff_getElem?.2 ⟨a, by rw [ha]; simp [hs.2.1, h32]⟩)
  have hna : x.a.toNat = a := by rw [ha]; simp
  rw [hna] at h
  obtain ⟨k, it', hk, hk1, hg⟩ := store_run (B := B) (ar := ar) (it := it) (op := op) (se := se) hy l a v (codeT x) (lst ((codeL ps).drop (s.at_ + 1))) ((codeL ps).take s.at_).reverse h32 (fun hb => by
    have h1 := hB hb; have h2 := hB2 hb; have h3 := hl.size hs.2.1; omega) (fun hb => by
    have h1 := hB hb; have := tx_pos (lst ((codeL ps).drop (s.at_ + 1))); omega)
  refine ⟨k0 + k, _, by omega, by omega, h.trans hg, setU l a v, ar, it', v, .nil, op, se, ye, ?_, hy, hl.put ha h32 hs.2.1 v⟩
  show _ = us 102 _ _ _ _ _ (lst ((codeL ps).drop (s.at_ + 1))) _ (lst ((codeL ps).take (s.at_ + 1)).reverse) _ _ _
  rw [hd2]
theorem sim_step {B : Prop} {ps : List Ins} {s t u : St} (hv : PValid ps) (hs : s.ok ps.length) (hne : s.at_ ≠ ps.length) (hst : stepP ps s = some t) (hu : AtU ps s u) (hB : Small B ps s) (hB2 : Small B ps t) :
    ∃ k u', k ≤ 5 * ps.length + 700 ∧ 0 < k ∧ Go B k u u' ∧ AtU ps t u' := by
  obtain ⟨l, ar, it, va, ta, op, se, ye, rfl, hy, hl⟩ := hu
  have hlt : s.at_ < ps.length := by have := hs.1; omega
  obtain ⟨x, hx⟩ : ∃ x, ps[s.at_]? = some x := ⟨_, List.getElem?_eq_getElem hlt⟩
  obtain ⟨⟨a, ha, hxa⟩, hop⟩ := right_op (hv.2.2 s.at_ x hx)
  obtain ⟨hd1, hd2⟩ := drop_at hx
  have hna : x.a.toNat = a := by rw [hxa]; simp
  have hsx : stepI x s = some t := by unfold stepP at hst; rw [hx] at hst; exact hst
  have hcs := code_split (codeL ps) s.at_
  rw [hd1]
  have f1 : Go B 6 (us 102 (lst l) ar it va ta (lst (codeT x :: (codeL ps).drop (s.at_ + 1))) .nil (lst ((codeL ps).take s.at_).reverse) op se ye) (us 10 (lst l) (payT x) (codeT x) va (numT x.a.toNat) (lst (codeT x :: (codeL ps).drop (s.at_ + 1))) .nil (lst ((codeL ps).take s.at_).reverse) (numT x.op.toNat) se ye) :=
    ((u102y lst_ne).trans (fetch (o := numT x.op.toNat) (a := numT x.a.toNat) (y := payT x) (r := lst ((codeL ps).drop (s.at_ + 1))))).cast rfl
  rcases hop with h0 | ⟨h134, b, hb, hxb⟩ | ⟨h2, ⟨b, hb, hxb⟩, ⟨c, hc, hxc⟩⟩ | ⟨h5, h5a, h5b⟩
  · rw [stepI_0 s h0] at hsx
    obtain rfl := Option.some.inj hsx
    have hp : payT x = rd x.tree := if_pos h0
    rw [hp, h0] at f1
    exact sim_put hs hx hl hy hxa ha (by omega) (f1.trans (oper0 hy)) hB hB2
  · have hnb : x.b.toNat = b := by rw [hxb]; simp
    have hreg := hl.reg hxb
    have hp : payT x = numT b := by
      unfold payT
      rw [if_neg (by omega), if_neg (by omega), if_neg (by omega), hnb]
    rw [hp] at f1
    rcases h134 with h1 | h3 | h4
    · rw [stepI_1 s h1] at hsx
      obtain rfl := Option.some.inj hsx
      rw [h1] at f1
      have g1 := f1.trans (oper1 b l hy)
      rw [hreg] at g1
      exact sim_put hs hx hl hy hxa ha (by omega) g1 hB hB2
    · rw [stepI_3 s h3] at hsx
      obtain rfl := Option.some.inj hsx
      rw [h3] at f1
      have g1 := f1.trans (oper3 b l hy)
      rw [hreg] at g1
      exact sim_put hs hx hl hy hxa ha (by omega) g1 hB hB2
    · rw [stepI_4 s h4] at hsx
      obtain rfl := Option.some.inj hsx
      rw [h4] at f1
      have g1 := f1.trans (oper4 b l hy)
      rw [hreg] at g1
      exact sim_put hs hx hl hy hxa ha (by omega) g1 hB hB2
  · have hnb : x.b.toNat = b := by rw [hxb]; simp
    have hnc : x.c.toNat = c := by rw [hxc]; simp
    have hrb := hl.reg hxb; have hrc := hl.reg hxc
    rw [stepI_2 s h2] at hsx
    by_cases hz : (tx (.pair (s.reg x.b) (s.reg x.c))).length ≤ 2000000
    · rw [if_pos hz] at hsx
      obtain rfl := Option.some.inj hsx
      have hp : payT x = .pair (numT b) (numT c) := by
        unfold payT
        rw [if_neg (by omega), if_pos h2, hnb, hnc]
      rw [hp, h2] at f1
      have g1 := f1.trans (oper2 b c l hy (fun _ => by rw [hrb, hrc]; exact hz))
      rw [hrb, hrc] at g1
      exact sim_put hs hx hl hy hxa ha (by omega) g1 hB hB2
    · rw [if_neg hz] at hsx; cases hsx
  · have hra := hl.reg hxa
    rw [stepI_5 s h5] at hsx
    rw [hna, h5] at f1
    have g1 := f1.trans (oper5 a l hy)
    rw [hra] at g1
    by_cases hr : s.reg x.a = .nil
    · rw [if_pos hr] at hsx
      obtain rfl := Option.some.inj hsx
      rw [hr] at g1
      have g2 := g1.trans (u67n.trans ((u68y hy).trans (u99.trans (u100 (fun hb => by
        have h1 := hB hb
        rw [hd1] at hcs; rw [tx_lst_cons] at hcs
        have := tx_pos (lst ((codeL ps).drop (s.at_ + 1)))
        rw [tx_pair]; show 1 + (tx (codeT x)).length + _ ≤ _; omega)))))
      have g3 := g2.trans u101
      change Go B _ _ (us 102 (lst l) (payT x) (codeT x) .nil .nil (lst ((codeL ps).drop (s.at_ + 1))) .nil (lst (codeT x :: ((codeL ps).take s.at_).reverse)) .nil se ye) at g3
      rw [← hd2] at g3
      exact ⟨_, _, by omega, by omega, g3, l, _, _, _, _, _, _, ye, rfl, hy, hl⟩
    · rw [if_neg hr] at hsx
      obtain rfl := Option.some.inj hsx
      have hlc : (codeL ps).length = ps.length := by simp [codeL]
      by_cases hneg : x.b < 0
      · obtain ⟨m, hm⟩ : ∃ m : Nat, (-x.b).toNat = m := ⟨_, rfl⟩
        have hp : payT x = .pair (.pair .nil .nil) (numT m) := by
          unfold payT
          rw [if_neg (by omega), if_neg (by omega), if_pos h5, if_pos hneg, hm]
        rw [hp] at g1
        have hat : ((s.at_ : Int) + x.b).toNat = s.at_ - m := by omega
        have hP : (codeL ps).take s.at_ = (codeL ps).take (s.at_ - m) ++ ((codeL ps).drop (s.at_ - m)).take m := by
          conv => lhs; rw [show s.at_ = (s.at_ - m) + m from by omega, List.take_add]
        have hQ : (codeL ps).drop (s.at_ - m) = ((codeL ps).drop (s.at_ - m)).take m ++ (codeL ps).drop s.at_ := by
          conv => lhs; rw [← List.take_append_drop m ((codeL ps).drop (s.at_ - m)), List.drop_drop, show s.at_ - m + m = s.at_ from by omega]
        have hQl : (((codeL ps).drop (s.at_ - m)).take m).reverse.length = m := by rw [List.length_reverse, List.length_take, List.length_drop]; omega
        have g2 := g1.trans ((u67y hr).trans (u69.trans (u70.trans ((u71y (fun h => Tr.noConfusion h)).trans (u79y hy)))))
        obtain ⟨it', k2⟩ := loopK (B := B) (rg := lst l) (va := .pair .nil .nil) (ta := .nil) (be := .nil) (op := .nil) (se := se) (ye := ye) (((codeL ps).drop (s.at_ - m)).take m).reverse ((codeL ps).take (s.at_ - m)).reverse ((codeL ps).drop s.at_) (it := codeT x) (fun hb => by
          have h1 := hB hb
          rw [← List.reverse_append, ← hP]; omega)
        rw [hQl, List.reverse_reverse, ← hQ, ← List.reverse_append, ← hP, hd1] at k2
        have g3 := (g2.trans k2).trans (u85y hy)
        refine ⟨_, _, ?_, ?_, g3, ?_⟩
        · omega
        · omega
        · rw [hat]
          exact ⟨l, _, _, _, _, _, _, ye, rfl, hy, hl⟩
      · obtain ⟨m, hm⟩ : ∃ m : Nat, x.b.toNat = m := ⟨_, rfl⟩
        have hp : payT x = .pair .nil (numT m) := by
          unfold payT
          rw [if_neg (by omega), if_neg (by omega), if_pos h5, if_neg hneg, hm]
        rw [hp] at g1
        have hat : ((s.at_ : Int) + x.b).toNat = s.at_ + m := by omega
        have hP : (codeL ps).drop s.at_ = ((codeL ps).drop s.at_).take m ++ (codeL ps).drop (s.at_ + m) := by
          conv => lhs; rw [← List.take_append_drop m ((codeL ps).drop s.at_), List.drop_drop]
        have hQ : ((codeL ps).take (s.at_ + m)).reverse = (((codeL ps).drop s.at_).take m).reverse ++ ((codeL ps).take s.at_).reverse := by
          rw [List.take_add, List.reverse_append]
        have hQl : (((codeL ps).drop s.at_).take m).length = m := by rw [List.length_take, List.length_drop]; omega
        have g2 := g1.trans ((u67y hr).trans (u69.trans (u70.trans (u71n.trans (u72y hy)))))
        obtain ⟨it', k2⟩ := loopF (B := B) (rg := lst l) (va := .nil) (ta := .nil) (be := .nil) (op := .nil) (se := se) (ye := ye) (((codeL ps).drop s.at_).take m) ((codeL ps).drop (s.at_ + m)) ((codeL ps).take s.at_).reverse (it := codeT x) (fun hb => by
          have h1 := hB hb
          rw [← hP]; omega)
        rw [hQl, ← hQ, ← hP, hd1] at k2
        have g3 := (g2.trans k2).trans (u78y hy)
        refine ⟨_, _, ?_, ?_, g3, ?_⟩
        · omega
        · omega
        · rw [hat]
          exact ⟨l, _, _, _, _, _, _, ye, rfl, hy, hl⟩
/-- the universal program takes its input apart -/
theorem sim_start {B : Prop} {ps : List Ins} {x : Tr} (hz : (tx (.pair (lst (codeL ps)) x)).length ≤ 2000000) : ∃ u, Go B 5 (first (.pair (lst (codeL ps)) x)) u ∧ AtU ps (first x) u := by
  have h1 := tx_pos (lst (codeL ps))
  rw [tx_pair] at hz
  have e1 : (tx (.pair x .nil)).length = 2 + (tx x).length := by rw [tx_pair]; simp [tx]; omega
  have g : Go B _ (us 0 (.pair (lst (codeL ps)) x) .nil .nil .nil .nil .nil .nil .nil .nil .nil .nil) _ := u0.trans (u1.trans ((u2 (fun _ => by show (tx (.pair x .nil)).length ≤ _; omega)).trans (u3.trans (u4y (by rw [rdp_100]; exact fun h => Tr.noConfusion h)))))
  refine ⟨_, g, [x], .nil, .nil, .nil, .nil, .nil, .nil, rd [49, 48, 48], rfl, by rw [rdp_100]; exact fun h => Tr.noConfusion h, by simp, fun r => ?_⟩
  show _ = (x :: List.replicate 31 Tr.nil).getD r .nil
  cases r with
  | zero => rfl
  | succ r =>
    simp only [List.getD_cons_succ, List.getD_nil]
    rw [List.getD_eq_getElem?_getD, List.getElem?_replicate]
    split <;> rfl
/-- the universal program does what the program does -/
theorem sim_run {B : Prop} {ps : List Ins} {x : Tr} (hv : PValid ps) (hx : (tx x).length ≤ 2000000) (hz : (tx (.pair (lst (codeL ps)) x)).length ≤ 2000000) {n : Nat} {t : St} (h : Steps ps (first x) n t) :
    (∀ m s, m ≤ n → Steps ps (first x) m s → Small B ps s) → ∃ k u, k ≤ 5 + n * (5 * ps.length + 700) ∧ n ≤ k ∧ Go B k (first (.pair (lst (codeL ps)) x)) u ∧ AtU ps t u := by
  induction h with
  | zero =>
    intro _
    obtain ⟨u, h1, h2⟩ := sim_start (B := B) hz
    exact ⟨5, u, by omega, by omega, h1, h2⟩
  | succ hs hne hst ih =>
    rename_i n s t
    intro hB
    obtain ⟨k, u, h1, h2, h3, h4⟩ := ih fun m s' hm hs' => hB m s' (by omega) hs'
    have hok := hs.ok hv (first_ok _ hx)
    obtain ⟨j, u', j1, j2, j3, j4⟩ := sim_step hv hok hne hst h4 (hB n s (by omega) hs) (hB (n + 1) t (by omega) (hs.succ hne hst))
    refine ⟨k + j, u', ?_, by omega, h3.trans j3, j4⟩
    rw [Nat.add_mul]; omega
/-- and returns what it returns -/
theorem sim_end {B : Prop} {ps : List Ins} {s u : St} (he : s.at_ = ps.length) (hu : AtU ps s u) : ∃ v, Go B 2 u v ∧ v.at_ = univL.length ∧ v.reg 0 = s.reg 0 := by
  obtain ⟨l, ar, it, va, ta, op, se, ye, rfl, hy, hl⟩ := hu
  have hd : (codeL ps).drop s.at_ = [] := List.drop_eq_nil_of_le (by simp [codeL]; omega)
  rw [hd]
  refine ⟨_, (u102n.trans u103), rfl, ?_⟩
  show hdT (lst l) = _
  rw [hd_lst, ← hl.reg (k := 0) (n := 0) rfl]
  cases l <;> rfl
end Go.Proofs.YtkpfocgcnehajabGreatDoor
