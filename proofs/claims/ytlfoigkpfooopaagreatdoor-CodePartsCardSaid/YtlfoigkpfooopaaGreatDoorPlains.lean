/- Instructions written and read: mathematics alone. By an AI agent. -/
import Derived.Test.YtlfoigkpfooopaaGreatDoorValidR
namespace Go.Proofs.YtlfoigkpfooopaaGreatDoor
open Go.RowKit Pl

theorem alt_num : ∀ (k : Nat) {l : List UInt8}, l.length ≤ k → vld l = true → alt l = true → ∃ n, l = num n := by
  intro k
  induction k with
  | zero =>
    intro l hl hv _
    have : l = [] := List.eq_nil_of_length_eq_zero (by omega)
    subst this
    exact absurd hv (by decide)
  | succ k ih =>
    intro l hl hv ha
    by_cases h0 : l = [48]
    · exact ⟨0, by rw [h0]; rfl⟩
    · obtain ⟨he, h1, h2⟩ := cons_hd_tl hv h0
      have hh : hd l = [48] := by
        by_cases h3 : hd l = [48]
        · exact h3
        · have h4 := (cons_hd_tl h1 h3).1
          rw [← he, ← h4] at ha
          simp [alt] at ha
      rw [hh] at he
      rw [← he] at ha
      have ha2 : alt (tl l) = true := by simpa [alt] using ha
      have hle := congrArg List.length he
      simp at hle
      obtain ⟨n, hn⟩ := ih (by omega) h2 ha2
      exact ⟨n + 1, by rw [num_succ, ← hn]; exact he.symm⟩
theorem num_of {l : List UInt8} (hv : vld l = true) (ha : alt l = true) : num (val l).toNat = l := by
  obtain ⟨n, rfl⟩ := alt_num l.length (Nat.le_refl _) hv ha
  rw [num_val, Int.toNat_natCast]
theorem pr_hd_tl {s : List UInt8} (h : vld s = true) (h0 : s ≠ [48]) : pr (hd s) (tl s) = s := (cons_hd_tl h h0).1
theorem unn_nest : ∀ {m : Nat} {s : List UInt8} {l : List (List UInt8)}, vld s = true → unn m s = some l → nestT l = s := by
  intro m
  induction m with
  | zero => intro s l _ h; simp only [unn, Option.some.injEq] at h; rw [← h]; rfl
  | succ m ih =>
    intro s l hv h
    simp only [unn] at h
    split at h
    · cases h
    · rename_i h0
      cases h1 : unn m (tl s) with
      | none => rw [h1] at h; cases h
      | some l1 =>
        rw [h1] at h; simp only [Option.map_some, Option.some.injEq] at h
        have h2 := ih (vld_hd hv).2 h1
        have h3 := unn_len h1
        rcases l1 with _ | ⟨y, l1⟩
        · simp at h3
        · rw [← h, nestT, h2, pr_hd_tl hv h0]; intro e; cases e
theorem nest_unn : ∀ (l : List (List UInt8)) (m : Nat), l.length = m + 1 → (∀ x ∈ l, vld x = true) → unn m (nestT l) = some l
  | [], m, h, _ => by simp at h
  | [z], m, h, _ => by
    obtain rfl : m = 0 := by simpa using h
    rfl
  | x :: y :: l, m, h, hv => by
    obtain ⟨m, rfl⟩ : ∃ j, m = j + 1 := ⟨m - 1, by simp at h; omega⟩
    have hx := hv x (by simp)
    have ih := nest_unn (y :: l) m (by simpa using h) (fun z hz => hv z (List.mem_cons_of_mem _ hz))
    have e : nestT (x :: y :: l) = pr x (nestT (y :: l)) := by rw [nestT]; intro e; cases e
    rw [e, unn, if_neg (by intro e; have := congrArg List.head? e; simp [pr] at this), hd_pr hx, tl_pr hx, ih]; rfl
end Go.Proofs.YtlfoigkpfooopaaGreatDoor

namespace Go.Proofs.YtlfoigkpfooopaaGreatDoor
open Go.RowKit Pl

/-- how numbers and distances are read and written -/
structure Form where
  N : List UInt8 → Option Int
  D : List UInt8 → Option Int
  n : Int → List UInt8
  d : Int → List UInt8
def Form.rd (F : Form) (s : List UInt8) (x : Ins) : Fld → Option Ins
  | .reg j => (F.N s).map fun v => x.setN j v
  | .dist => (F.D s).map fun v => x.setN 2 v
  | .con => if vld s = true then some { x with tree := s } else none
def Form.wr (F : Form) (x : Ins) : Fld → List UInt8
  | .reg j => F.n (x.getN j)
  | .dist => F.d x.b
  | .con => x.tree
def codF : Form := ⟨DNum, dd, fun v => num v.toNat, cd⟩
def txtF : Form := ⟨pn, pn, Lib.itoa, Lib.itoa⟩
theorem cod_rd : Fld.dec = codF.rd := by funext s x f; cases f <;> rfl
theorem cod_wr : Fld.cod = codF.wr := by funext x f; cases f <;> rfl
theorem txt_rd : Fld.par = txtF.rd := by funext s x f; cases f <;> rfl
theorem txt_wr : Fld.txt = txtF.wr := by funext x f; cases f <;> rfl
theorem obind {α β : Type} {o : Option α} {f : α → Option β} {y : β} (h : o.bind f = some y) : ∃ a, o = some a ∧ f a = some y := Option.bind_eq_some_iff.1 h
theorem omap {α β : Type} {o : Option α} {f : α → β} {y : β} (h : o.map f = some y) : ∃ a, o = some a ∧ f a = y := Option.map_eq_some_iff.1 h
theorem flds_case {k : Nat} (h : k < 6) : (k = 0 ∧ fldsOf k = [.reg 1, .con]) ∨ ((k = 1 ∨ k = 3 ∨ k = 4) ∧ fldsOf k = [.reg 1, .reg 2]) ∨ (k = 2 ∧ fldsOf k = [.reg 1, .reg 2, .reg 3]) ∨ (k = 5 ∧ fldsOf k = [.reg 1, .dist]) := by
  match k, h with
  | 0, _ => exact .inl ⟨rfl, rfl⟩
  | 1, _ => exact .inr (.inl ⟨.inl rfl, rfl⟩)
  | 2, _ => exact .inr (.inr (.inl ⟨rfl, rfl⟩))
  | 3, _ => exact .inr (.inl ⟨.inr (.inl rfl), rfl⟩)
  | 4, _ => exact .inr (.inl ⟨.inr (.inr rfl), rfl⟩)
  | 5, _ => exact .inr (.inr (.inr ⟨rfl, rfl⟩))
theorem form_inv (F : Form) {k : Nat} {ts : List (List UInt8)} {x : Ins} (hk : k < 6) (hl : ts.length = (fldsOf k).length)
    (hN : ∀ t ∈ ts, ∀ v, F.N t = some v → F.n v = t) (hD : ∀ t ∈ ts, ∀ v, F.D t = some v → F.d v = t)
    (h : foldF F.rd (fldsOf k) ts (ins0 k) = some x) : (fldsOf k).map (F.wr x) = ts ∧ x.op = k ∧ (x.tree = [] ∨ x.tree ∈ ts) := by
  rcases flds_case hk with ⟨_, e⟩ | ⟨_, e⟩ | ⟨_, e⟩ | ⟨_, e⟩
  · rw [e] at hl h ⊢
    obtain ⟨t1, t2, rfl⟩ : ∃ t1 t2, ts = [t1, t2] := by
      rcases ts with _ | ⟨t1, _ | ⟨t2, _ | ⟨t3, ts⟩⟩⟩ <;> simp at hl; exact ⟨t1, t2, rfl⟩
    simp only [foldF] at h
    obtain ⟨y, h1, h⟩ := obind h
    obtain ⟨z, h2, h⟩ := obind h
    obtain rfl : z = x := by simpa using h
    obtain ⟨v1, e1, rfl⟩ := omap h1
    have g1 := hN t1 (by simp) v1 e1
    simp only [Form.rd] at h2
    split at h2
    · obtain rfl := Option.some.inj h2
      exact ⟨by simp [Form.wr, Ins.getN, Ins.setN, ins0, g1], rfl, .inr (by simp)⟩
    · cases h2
  · rw [e] at hl h ⊢
    obtain ⟨t1, t2, rfl⟩ : ∃ t1 t2, ts = [t1, t2] := by
      rcases ts with _ | ⟨t1, _ | ⟨t2, _ | ⟨t3, ts⟩⟩⟩ <;> simp at hl; exact ⟨t1, t2, rfl⟩
    simp only [foldF] at h
    obtain ⟨y, h1, h⟩ := obind h
    obtain ⟨z, h2, h⟩ := obind h
    obtain rfl : z = x := by simpa using h
    obtain ⟨v1, e1, rfl⟩ := omap h1
    obtain ⟨v2, e2, rfl⟩ := omap h2
    have g1 := hN t1 (by simp) v1 e1
    have g2 := hN t2 (by simp) v2 e2
    exact ⟨by simp [Form.wr, Ins.getN, Ins.setN, ins0, g1, g2], rfl, .inl rfl⟩
  · rw [e] at hl h ⊢
    obtain ⟨t1, t2, t3, rfl⟩ : ∃ t1 t2 t3, ts = [t1, t2, t3] := by
      rcases ts with _ | ⟨t1, _ | ⟨t2, _ | ⟨t3, _ | ⟨t4, ts⟩⟩⟩⟩ <;> simp at hl; exact ⟨t1, t2, t3, rfl⟩
    simp only [foldF] at h
    obtain ⟨y, h1, h⟩ := obind h
    obtain ⟨y2, h2, h⟩ := obind h
    obtain ⟨z, h3, h⟩ := obind h
    obtain rfl : z = x := by simpa using h
    obtain ⟨v1, e1, rfl⟩ := omap h1
    obtain ⟨v2, e2, rfl⟩ := omap h2
    obtain ⟨v3, e3, rfl⟩ := omap h3
    have g1 := hN t1 (by simp) v1 e1
    have g2 := hN t2 (by simp) v2 e2
    have g3 := hN t3 (by simp) v3 e3
    exact ⟨by simp [Form.wr, Ins.getN, Ins.setN, ins0, g1, g2, g3], rfl, .inl rfl⟩
  · rw [e] at hl h ⊢
    obtain ⟨t1, t2, rfl⟩ : ∃ t1 t2, ts = [t1, t2] := by
      rcases ts with _ | ⟨t1, _ | ⟨t2, _ | ⟨t3, ts⟩⟩⟩ <;> simp at hl; exact ⟨t1, t2, rfl⟩
    simp only [foldF] at h
    obtain ⟨y, h1, h⟩ := obind h
    obtain ⟨z, h2, h⟩ := obind h
    obtain rfl : z = x := by simpa using h
    obtain ⟨v1, e1, rfl⟩ := omap h1
    obtain ⟨v2, e2, rfl⟩ := omap h2
    have g1 := hN t1 (by simp) v1 e1
    have g2 := hD t2 (by simp) v2 e2
    exact ⟨by simp [Form.wr, Ins.getN, Ins.setN, ins0, g1, g2], rfl, .inl rfl⟩
theorem right_k {x : Ins} {i n : Int} (h : right x i n = true) : ∃ k : Nat, k < 6 ∧ x.op = k := by
  obtain ⟨_, hc⟩ := right_cases h
  rcases hc with h | h | h | h
  · exact ⟨0, by omega, h.1⟩
  · rcases h.1 with e | e | e
    · exact ⟨1, by omega, e⟩
    · exact ⟨3, by omega, e⟩
    · exact ⟨4, by omega, e⟩
  · exact ⟨2, by omega, h.1⟩
  · exact ⟨5, by omega, h.1⟩
theorem form_fwd (F : Form) {k : Nat} {x : Ins} {i n : Int} (h : right x i n = true) (hi0 : 0 ≤ i) (hi : i ≤ 4000) (hn : n ≤ 4000) (hk : x.op = k)
    (hN : ∀ v : Nat, v < 32 → F.N (F.n v) = some (v : Int)) (hD : ∀ v : Int, -4000 ≤ v → v ≤ 4000 → F.D (F.d v) = some v) :
    foldF F.rd (fldsOf k) ((fldsOf k).map (F.wr x)) (ins0 k) = some x := by
  obtain ⟨ha, hc⟩ := right_cases h
  obtain ⟨a, hra, hla⟩ := reg_nat ha
  obtain ⟨op, a0, b, c, t⟩ := x
  simp only at hra hc hk; subst hra
  have ea := hN a (by omega)
  rcases hc with ⟨rfl, rfl, rfl, hv⟩ | ⟨ho, hb, rfl, rfl⟩ | ⟨rfl, hb, hc, rfl⟩ | ⟨rfl, rfl, rfl, hb1, hb2⟩
  · obtain rfl : k = 0 := by omega
    simp [fldsOf, foldF, Form.rd, Form.wr, Ins.getN, Ins.setN, ins0, ea, hv]
  · obtain ⟨b, rfl, hlb⟩ := reg_nat hb
    have eb := hN b (by omega)
    have e : fldsOf k = [.reg 1, .reg 2] := by
      have : k = 1 ∨ k = 3 ∨ k = 4 := by omega
      rcases this with rfl | rfl | rfl <;> rfl
    rw [e]
    simp [foldF, Form.rd, Form.wr, Ins.getN, Ins.setN, ins0, ea, eb, hk]
  · obtain ⟨b, rfl, hlb⟩ := reg_nat hb
    obtain ⟨c, rfl, hlc⟩ := reg_nat hc
    have eb := hN b (by omega)
    have ec := hN c (by omega)
    obtain rfl : k = 2 := by omega
    simp [fldsOf, foldF, Form.rd, Form.wr, Ins.getN, Ins.setN, ins0, ea, eb, ec]
  · obtain rfl : k = 5 := by omega
    have eb := hD b (by omega) (by omega)
    simp [fldsOf, foldF, Form.rd, Form.wr, Ins.getN, Ins.setN, ins0, ea, eb]
end Go.Proofs.YtlfoigkpfooopaaGreatDoor

namespace Go.Proofs.YtlfoigkpfooopaaGreatDoor
open Go.RowKit Pl

theorem rdAll_sound {rd : List UInt8 → Option Ins} {wr : Ins → List UInt8} : ∀ {ls : List (List UInt8)} {ps : List Ins}, (∀ s ∈ ls, ∀ x, rd s = some x → wr x = s) → rdAll rd ls = some ps → ps.map wr = ls
  | [], ps, _, h => by simp only [rdAll, Option.some.injEq] at h; rw [← h]; rfl
  | s :: ls, ps, hs, h => by
    rw [rdAll] at h
    obtain ⟨x, h1, h⟩ := obind h
    obtain ⟨xs, h2, rfl⟩ := omap h
    rw [List.map_cons, hs s (by simp) x h1, rdAll_sound (fun t ht => hs t (List.mem_cons_of_mem _ ht)) h2]
theorem rdAll_complete {rd : List UInt8 → Option Ins} {wr : Ins → List UInt8} : ∀ {ps : List Ins}, (∀ x ∈ ps, rd (wr x) = some x) → rdAll rd (ps.map wr) = some ps
  | [], _ => rfl
  | x :: ps, h => by
    rw [List.map_cons, rdAll, h x (by simp), rdAll_complete (fun y hy => h y (List.mem_cons_of_mem _ hy))]; rfl
theorem dnum_num {t : List UInt8} {v : Int} (hv : vld t = true) (h : DNum t = some v) : num v.toNat = t := by
  unfold DNum at h
  split at h
  · rename_i ha; rw [← Option.some.inj h]; exact num_of hv ha
  · cases h
theorem dd_cd {t : List UInt8} {v : Int} (hv : vld t = true) (h : dd t = some v) : cd v = t := by
  unfold dd at h
  split at h
  · cases h
  · rename_i h0
    have ht := (vld_hd hv).2
    split at h
    · rename_i h1
      split at h
      · rename_i ha
        rw [← Option.some.inj h]
        have := val_nonneg ha
        rw [cd, if_neg (by omega), num_of ht ha]
        have := pr_hd_tl hv h0
        rw [h1] at this; exact this
      · cases h
    · split at h
      · rename_i h1
        split at h
        · rename_i ha
          rw [← Option.some.inj h, cd, if_pos (by omega), Int.neg_neg, num_of ht ha.1]
          have := pr_hd_tl hv h0
          rw [h1] at this; exact this
        · cases h
      · cases h
theorem dd_of_cd {v : Int} (h1 : -4000 ≤ v) (h2 : v ≤ 4000) : dd (cd v) = some v := by
  have w0 : vld [48] = true := by decide
  have w1 : vld [49, 48, 48] = true := by decide
  unfold cd
  by_cases h : v < 0
  · rw [if_pos h]
    have e : pr [49, 48, 48] (num (-v).toNat) ≠ [48] := by simp [pr]
    have hv : 0 < val (num (-v).toNat) := by rw [num_val]; omega
    simp only [dd, if_neg e, hd_pr w1, tl_pr w1, num_alt, hv, and_self, if_true]
    rw [if_neg (by decide), num_val]; congr 1; omega
  · rw [if_neg h]
    have e : pr [48] (num v.toNat) ≠ [48] := by simp [pr]
    simp only [dd, if_neg e, hd_pr w0, tl_pr w0, num_alt, if_true]
    rw [num_val]; congr 1; omega
theorem nest_code {x : Ins} {k : Nat} (hk : k < 6) (ho : x.op = k) : nestT (treesOf x k) = codeOf x := by
  obtain ⟨op, a, b, c, t⟩ := x
  simp only at ho; subst ho
  have hk6 : k = 0 ∨ k = 1 ∨ k = 2 ∨ k = 3 ∨ k = 4 ∨ k = 5 := by omega
  rcases hk6 with rfl | rfl | rfl | rfl | rfl | rfl
  · simp [treesOf, fldsOf, nestT, codeOf, body, Fld.cod, Ins.getN]
  · simp [treesOf, fldsOf, nestT, codeOf, body, Fld.cod, Ins.getN]
  · simp [treesOf, fldsOf, nestT, codeOf, body, Fld.cod, Ins.getN]
  · simp [treesOf, fldsOf, nestT, codeOf, body, Fld.cod, Ins.getN]
  · simp [treesOf, fldsOf, nestT, codeOf, body, Fld.cod, Ins.getN]
  · by_cases h : b < 0 <;> simp [treesOf, fldsOf, nestT, codeOf, body, Fld.cod, Ins.getN, cd, h]
theorem treesOf_nest (x : Ins) (k : Nat) : nestT (treesOf x k) = pr (num k) (nestT ((fldsOf k).map (Fld.cod x))) := by
  have := flds_pos k
  unfold treesOf
  cases h : (fldsOf k).map (Fld.cod x) with
  | nil => rw [List.map_eq_nil_iff] at h; rw [h] at this; simp at this
  | cons y l => rw [nestT]; intro e; cases e
theorem decK_sound {k : Nat} {b : List UInt8} {x : Ins} (hk : k < 6) (hv : vld b = true) (h : decK k b = some x) : codeOf x = pr (num k) b ∧ x.op = k ∧ x.tree.length ≤ 2000000 := by
  unfold decK at h
  obtain ⟨ts, h1, h2⟩ := obind h
  have hl := unn_len h1
  have hp := flds_pos k
  have hvs := unn_vld hv h1
  rw [cod_rd] at h2
  obtain ⟨e1, e2, e3⟩ := form_inv codF hk (by omega) (fun t ht v => dnum_num (hvs t ht)) (fun t ht v => dd_cd (hvs t ht)) h2
  refine ⟨?_, e2, ?_⟩
  · rw [← nest_code hk e2, treesOf_nest, cod_wr, e1, unn_nest hv h1]
  · rcases e3 with e | e
    · rw [e]; simp
    · exact (vld_iff.1 (hvs _ e)).1
theorem decM_sound {s : List UInt8} {x : Ins} (hv : vld s = true) (h : decM s = some x) : codeOf x = s ∧ x.tree.length ≤ 2000000 := by
  unfold decM at h
  split at h
  · cases h
  · rename_i h0
    split at h
    · rename_i ha
      split at h
      · rename_i h6
        have hn := val_nonneg ha
        obtain ⟨e1, _, e3⟩ := decK_sound (by omega) (vld_hd hv).2 h
        rw [num_of (vld_hd hv).1 ha] at e1
        exact ⟨by rw [e1, pr_hd_tl hv h0], e3⟩
      · cases h
    · cases h
theorem cods_vld {x : Ins} {i n : Int} {k : Nat} (h : right x i n = true) (hi0 : 0 ≤ i) (hi : i ≤ 4000) (hn : n ≤ 4000) (ho : x.op = k) : ∀ f ∈ fldsOf k, vld (f.cod x) = true := by
  obtain ⟨ha, hc⟩ := right_cases h
  obtain ⟨a, hra, hla⟩ := reg_nat ha
  obtain ⟨op, a0, b, c, t⟩ := x
  simp only at hra hc ho; subst hra
  have va := num_vld (n := a) (by omega)
  intro f hf
  rcases hc with ⟨rfl, rfl, rfl, hv⟩ | ⟨ho2, hb, rfl, rfl⟩ | ⟨rfl, hb, hc, rfl⟩ | ⟨rfl, rfl, rfl, hb1, hb2⟩
  · obtain rfl : k = 0 := by omega
    simp [fldsOf] at hf
    rcases hf with rfl | rfl
    · simpa [Fld.cod, Ins.getN] using va
    · exact hv
  · obtain ⟨b, rfl, hlb⟩ := reg_nat hb
    have vb := num_vld (n := b) (by omega)
    have e : fldsOf k = [.reg 1, .reg 2] := by
      have : k = 1 ∨ k = 3 ∨ k = 4 := by omega
      rcases this with rfl | rfl | rfl <;> rfl
    rw [e] at hf
    simp at hf
    rcases hf with rfl | rfl
    · simpa [Fld.cod, Ins.getN] using va
    · simpa [Fld.cod, Ins.getN] using vb
  · obtain ⟨b, rfl, hlb⟩ := reg_nat hb
    obtain ⟨c, rfl, hlc⟩ := reg_nat hc
    have vb := num_vld (n := b) (by omega)
    have vc := num_vld (n := c) (by omega)
    obtain rfl : k = 2 := by omega
    simp [fldsOf] at hf
    rcases hf with rfl | rfl | rfl
    · simpa [Fld.cod, Ins.getN] using va
    · simpa [Fld.cod, Ins.getN] using vb
    · simpa [Fld.cod, Ins.getN] using vc
  · obtain rfl : k = 5 := by omega
    simp [fldsOf] at hf
    rcases hf with rfl | rfl
    · simpa [Fld.cod, Ins.getN] using va
    · simp only [Fld.cod, cd]
      split
      · exact vld_pr (by decide) (num_vld (by omega)) (by rw [pr_len, num_len]; simp; omega)
      · exact vld_pr (by decide) (num_vld (by omega)) (by rw [pr_len, num_len]; simp; omega)
theorem decM_complete {x : Ins} {i n : Int} (h : right x i n = true) (hi0 : 0 ≤ i) (hi : i ≤ 4000) (hn : n ≤ 4000) : decM (codeOf x) = some x := by
  obtain ⟨k, hk, ho⟩ := right_k h
  have hvs := cods_vld h hi0 hi hn ho
  rw [← nest_code hk ho, treesOf_nest]
  have hkv := num_vld (n := k) (by omega)
  have e0 : pr (num k) (nestT ((fldsOf k).map (Fld.cod x))) ≠ [48] := by simp [pr]
  have hp := flds_pos k
  unfold decM
  rw [if_neg e0, hd_pr hkv, tl_pr hkv, num_alt, if_pos rfl, num_val, if_pos (by omega), Int.toNat_natCast]
  unfold decK
  rw [nest_unn _ ((fldsOf k).length - 1) (by rw [List.length_map]; omega) (fun y hy => by obtain ⟨f, hf, rfl⟩ := List.mem_map.1 hy; exact hvs f hf)]
  rw [Option.bind_some, cod_rd, cod_wr]
  exact form_fwd codF h hi0 hi hn ho (fun v _ => by simp [codF, DNum, num_alt, num_val]) (fun v h1 h2 => dd_of_cd h1 h2)
end Go.Proofs.YtlfoigkpfooopaaGreatDoor

namespace Go.Proofs.YtlfoigkpfooopaaGreatDoor
open Go.RowKit Pl

theorem nmIx_is {l : List UInt8} (h : nmIx l < 6) : nms.getD (nmIx l) [] = l := by
  unfold nmIx at h ⊢
  repeat' split
  all_goals first | assumption | skip
  simp_all
theorem nms_ix {k : Nat} (h : k < 6) : nmIx (nms.getD k []) = k := by
  have hk6 : k = 0 ∨ k = 1 ∨ k = 2 ∨ k = 3 ∨ k = 4 ∨ k = 5 := by omega
  rcases hk6 with rfl | rfl | rfl | rfl | rfl | rfl <;> decide
theorem nms_free {k : Nat} (h : k < 6) : (32 : UInt8) ∉ nms.getD k [] ∧ (59 : UInt8) ∉ nms.getD k [] := by
  have hk6 : k = 0 ∨ k = 1 ∨ k = 2 ∨ k = 3 ∨ k = 4 ∨ k = 5 := by omega
  rcases hk6 with rfl | rfl | rfl | rfl | rfl | rfl <;> decide
theorem text_textM {x : Ins} {k : Nat} (hk : k < 6) (ho : x.op = k) : textM x k = textOf x := by
  obtain ⟨op, a, b, c, t⟩ := x
  simp only at ho; subst ho
  have hk6 : k = 0 ∨ k = 1 ∨ k = 2 ∨ k = 3 ∨ k = 4 ∨ k = 5 := by omega
  rcases hk6 with rfl | rfl | rfl | rfl | rfl | rfl <;>
    simp [textM, wordsOf, fldsOf, textOf, nm, Fld.txt, Ins.getN, join_two, Lib.join_one, itoa_dint]
theorem textM_cons (x : Ins) (k : Nat) : textM x k = nms.getD k [] ++ [32] ++ Lib.join ((fldsOf k).map (Fld.txt x)) [32] := by
  have := flds_pos k
  unfold textM wordsOf
  cases h : (fldsOf k).map (Fld.txt x) with
  | nil => rw [List.map_eq_nil_iff] at h; rw [h] at this; simp at this
  | cons y l => rw [join_two]
theorem pn_itoa {t : List UInt8} {v : Int} (h : pn t = some v) : Lib.itoa v = t := by rw [itoa_dint]; exact pn_some h
theorem flds_ge2 (k : Nat) : 2 ≤ (fldsOf k).length := by
  unfold fldsOf
  repeat' split
  all_goals simp
theorem parM_sound {s : List UInt8} {x : Ins} (h : parM s = some x) : textOf x = s ∧ x.tree.length ≤ s.length := by
  unfold parM at h
  split at h
  · rename_i h6
    obtain ⟨k, hk⟩ : ∃ k, k = nmIx (Lib.cut s [32]).1 := ⟨_, rfl⟩
    have hn := nmIx_is h6
    rw [← hk] at h h6 hn
    unfold parW at h
    split at h
    · rename_i hl
      have h2 := flds_ge2 k
      rw [txt_rd] at h
      obtain ⟨e1, e2, e3⟩ := form_inv txtF h6 hl (fun t _ v => pn_itoa) (fun t _ v => pn_itoa) h
      have hs : s = (Lib.cut s [32]).1 ++ [32] ++ (Lib.cut s [32]).2.1 := by
        rcases cut_cases s [32] with hc | ⟨a, b, hc, e⟩
        · rw [hc] at hl
          have : Lib.splitN ([] : List UInt8) [32] ((fldsOf k).length + 1) = [[]] := by
            have hj := join_splitN ([] : List UInt8) [32] ((fldsOf k).length + 1)
            rcases hw : Lib.splitN ([] : List UInt8) [32] ((fldsOf k).length + 1) with _ | ⟨y, _ | ⟨z, r⟩⟩
            · rw [hw] at hl; simp at hl; omega
            · rw [hw, Lib.join_one] at hj; rw [hj]
            · rw [hw, join_two] at hj; simp at hj
          rw [this] at hl
          simp at hl; omega
        · rw [hc]; exact e
      refine ⟨?_, ?_⟩
      · rw [← text_textM h6 e2, textM_cons, txt_wr, e1, join_splitN, hn]; exact hs.symm
      · rcases e3 with e | e
        · rw [e]; simp
        · exact Nat.le_trans (split_le _ _ _ _ e) (cut_le s [32]).2
    · cases h
  · cases h
theorem vld_bits : ∀ (k : Nat) {l : List UInt8}, l.length ≤ k → vld l = true → ∀ c ∈ l, c = 48 ∨ c = 49 := by
  intro k
  induction k with
  | zero => intro l hl hv c hc; have : l = [] := List.eq_nil_of_length_eq_zero (by omega); subst this; cases hc
  | succ k ih =>
    intro l hl hv c hc
    by_cases h0 : l = [48]
    · rw [h0] at hc; simp at hc; exact .inl hc
    · obtain ⟨he, h1, h2⟩ := cons_hd_tl hv h0
      have hle := congrArg List.length he
      simp at hle
      rw [← he] at hc
      rcases List.mem_cons.1 hc with rfl | hc
      · exact .inr rfl
      · rcases List.mem_append.1 hc with hc | hc
        · exact ih (by omega) h1 c hc
        · exact ih (by omega) h2 c hc
theorem vld_free {l : List UInt8} (h : vld l = true) : (32 : UInt8) ∉ l ∧ (59 : UInt8) ∉ l :=
  ⟨fun hc => by rcases vld_bits l.length (Nat.le_refl _) h _ hc with e | e <;> exact absurd e (by decide), fun hc => by rcases vld_bits l.length (Nat.le_refl _) h _ hc with e | e <;> exact absurd e (by decide)⟩
theorem dint_free (n : Int) : (32 : UInt8) ∉ dint n ∧ (59 : UInt8) ∉ dint n := by
  have key : ∀ c : UInt8, c ∈ dint n → c.toNat = 45 ∨ (48 ≤ c.toNat ∧ c.toNat ≤ 57) := by
    intro c hc
    unfold dint at hc
    split at hc
    · rcases List.mem_cons.1 hc with rfl | hc
      · exact .inl rfl
      · exact .inr (allD_mem (dg_all _) c hc)
    · exact .inr (allD_mem (dg_all _) c hc)
  exact ⟨fun h => by have := key _ h; simp at this, fun h => by have := key _ h; simp at this⟩
theorem txts_free {x : Ins} {i n : Int} {k : Nat} (h : right x i n = true) (ho : x.op = k) : ∀ w ∈ (fldsOf k).map (Fld.txt x), (32 : UInt8) ∉ w ∧ (59 : UInt8) ∉ w := by
  intro w hw
  obtain ⟨f, hf, rfl⟩ := List.mem_map.1 hw
  cases f with
  | reg j => simp only [Fld.txt, itoa_dint]; exact dint_free _
  | dist => simp only [Fld.txt, itoa_dint]; exact dint_free _
  | con =>
    have hk0 : k = 0 := by
      unfold fldsOf at hf
      split at hf
      · assumption
      · split at hf
        · simp at hf
        · split at hf <;> simp at hf
    obtain ⟨_, hc⟩ := right_cases h
    rcases hc with hc | hc | hc | hc
    · exact vld_free hc.2.2.2
    · omega
    · omega
    · omega
theorem parM_complete {x : Ins} {i n : Int} (h : right x i n = true) (hi0 : 0 ≤ i) (hi : i ≤ 4000) (hn : n ≤ 4000) : parM (textOf x) = some x := by
  obtain ⟨k, hk, ho⟩ := right_k h
  have hfr := txts_free h ho
  have h2 := flds_ge2 k
  rw [← text_textM hk ho, textM_cons]
  have hcut := cut_hit (c := 32) (r := []) (t := Lib.join ((fldsOf k).map (Fld.txt x)) [32]) (nms_free hk).1
  unfold parM
  rw [hcut]
  simp only
  rw [nms_ix hk, if_pos hk, splitN_join _ _ (by intro e; rw [List.map_eq_nil_iff] at e; rw [e] at h2; simp at h2) (fun w hw => (hfr w hw).1) (by simp)]
  unfold parW
  rw [if_pos (by simp), txt_rd, txt_wr]
  exact form_fwd txtF h hi0 hi hn ho (fun v hv => by simp only [txtF, itoa_dint]; exact pn_dint (by omega) (by omega)) (fun v h1 h2 => by simp only [txtF, itoa_dint]; exact pn_dint (by omega) (by omega))
theorem textOf_free {x : Ins} {i n : Int} (h : right x i n = true) : (59 : UInt8) ∉ textOf x := by
  obtain ⟨k, hk, ho⟩ := right_k h
  have hfr := txts_free h ho
  rw [← text_textM hk ho, textM_cons]
  have key : ∀ (ws : List (List UInt8)), (∀ w ∈ ws, (59 : UInt8) ∉ w) → (59 : UInt8) ∉ Lib.join ws [32] := by
    intro ws
    induction ws with
    | nil => intro _ h; simp [Lib.join_nil] at h
    | cons y r ih =>
      intro hw hm
      cases r with
      | nil => rw [Lib.join_one] at hm; exact hw y (by simp) hm
      | cons z r =>
        rw [join_two] at hm
        simp only [List.mem_append] at hm
        rcases hm with (hm | hm) | hm
        · exact hw y (by simp) hm
        · simp at hm
        · exact ih (fun w hw' => hw w (List.mem_cons_of_mem _ hw')) hm
  intro hm
  simp only [List.mem_append] at hm
  rcases hm with (hm | hm) | hm
  · exact (nms_free hk).2 hm
  · simp at hm
  · exact key _ (fun w hw => (hfr w hw).2) hm
theorem join_snoc (ws : List (List UInt8)) (x : List UInt8) (sep : List UInt8) : Lib.join (ws ++ [x]) sep = Lib.join ws sep ++ (if 0 < ws.length then sep else []) ++ x := by
  induction ws with
  | nil => simp [Lib.join_one, Lib.join_nil]
  | cons y r ih =>
    cases r with
    | nil => rw [List.cons_append, List.nil_append, join_two, Lib.join_one, Lib.join_one]; simp
    | cons z r => rw [List.cons_append, List.cons_append, join_two, ← List.cons_append, ih, join_two]; simp
theorem txtTo_join (ps : List Ins) : ∀ k, k ≤ ps.length → txtTo ps k = Lib.join ((ps.take k).map textOf) [59, 32] := by
  intro k
  induction k with
  | zero => intro _; simp [txtTo, Lib.join_nil]
  | succ k ih =>
    intro h
    obtain ⟨x, hx⟩ := get_at (ps := ps) (k := k) (by omega)
    rw [txtTo_succ hx, ih (by omega), List.take_add_one, hx, Option.toList_some, List.map_append, List.map_cons, List.map_nil, join_snoc]
    have : (List.map textOf (List.take k ps)).length = k := by simp; omega
    rw [this]
theorem txt_join (ps : List Ins) : txt ps = Lib.join (ps.map textOf) [59, 32] := by
  rw [txt, txtTo_join ps ps.length (Nat.le_refl _), List.take_length]
end Go.Proofs.YtlfoigkpfooopaaGreatDoor
