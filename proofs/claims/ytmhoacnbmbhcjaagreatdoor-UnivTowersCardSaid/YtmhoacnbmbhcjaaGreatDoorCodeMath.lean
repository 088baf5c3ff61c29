/- Codes and what is read of them: mathematics alone. By an AI agent. -/
import Derived.Test.YtmhoacnbmbhcjaaGreatDoorTxt
namespace Go.Proofs.YtmhoacnbmbhcjaaGreatDoor
open Go.RowKit Pl

theorem hd_pr {a b : List UInt8} (ha : vld a = true) : hd (pr a b) = a := (hd_cons ha).1
theorem tl_pr {a b : List UInt8} (ha : vld a = true) : tl (pr a b) = b := (hd_cons ha).2
theorem vld_small {n : Nat} (h : n ≤ 999999) : vld (num n) = true := num_vld h
theorem dec_code {x : Ins} {i n : Int} (h : right x i n = true) : dec (codeOf x) = x := by
  obtain ⟨ha, hc⟩ := right_cases h
  obtain ⟨a, hra, hla⟩ := reg_nat ha
  obtain ⟨op, a0, b, c, t⟩ := x
  simp only at hra hc; subst hra
  have va := num_vld (n := a) (by omega)
  rcases hc with ⟨rfl, rfl, rfl, hv⟩ | ⟨ho, hb, rfl, rfl⟩ | ⟨rfl, hb, hc, rfl⟩ | ⟨rfl, rfl, rfl, hb1, hb2⟩
  · have v0 := num_vld (n := 0) (by omega)
    simp [dec, decr, codeOf, body, hd_pr, tl_pr, va, v0, num_val]
  · obtain ⟨b, rfl, hlb⟩ := reg_nat hb
    rcases ho with rfl | rfl | rfl
    · have v0 := num_vld (n := 1) (by omega)
      simp [dec, decr, codeOf, body, hd_pr, tl_pr, va, v0, num_val]
    · have v0 := num_vld (n := 3) (by omega)
      simp [dec, decr, codeOf, body, hd_pr, tl_pr, va, v0, num_val]
    · have v0 := num_vld (n := 4) (by omega)
      simp [dec, decr, codeOf, body, hd_pr, tl_pr, va, v0, num_val]
  · obtain ⟨b, rfl, hlb⟩ := reg_nat hb
    obtain ⟨c, rfl, hlc⟩ := reg_nat hc
    have v0 := num_vld (n := 2) (by omega)
    have vb := num_vld (n := b) (by omega)
    simp [dec, decr, codeOf, body, hd_pr, tl_pr, va, vb, v0, num_val]
  · have v0 := num_vld (n := 5) (by omega)
    have w0 : vld [48] = true := by decide
    have w1 : vld [49, 48, 48] = true := by decide
    by_cases hb : b < 0
    · obtain ⟨k, hk⟩ : ∃ k : Nat, b = -(k : Int) := ⟨(-b).toNat, by omega⟩
      subst hk
      have hk0 : 0 < k := by omega
      simp [dec, decr, codeOf, body, hd_pr, tl_pr, va, v0, w1, num_val, hk0]
    · obtain ⟨k, hk⟩ : ∃ k : Nat, b = (k : Int) := ⟨b.toNat, by omega⟩
      subst hk
      have hb' : ¬ (k : Int) < 0 := hb
      simp only [dec, decr, codeOf, body, hb', if_false]
      simp [hd_pr, tl_pr, va, v0, w0, num_val]
theorem vld_pr {a b : List UInt8} (ha : vld a = true) (hb : vld b = true) (h : (pr a b).length ≤ 2000000) : vld (pr a b) = true := vld_cons ha hb (by rw [pr_len] at h; exact h)
theorem vld_code {x : Ins} {i n : Int} (h : right x i n = true) (hi0 : 0 ≤ i) (hi : i ≤ 4000) (hn : n ≤ 4000) (hl : (codeOf x).length ≤ 2000000) : vld (codeOf x) = true := by
  obtain ⟨ha, hc⟩ := right_cases h
  obtain ⟨a, hra, hla⟩ := reg_nat ha
  obtain ⟨op, a0, b, c, t⟩ := x
  simp only at hra hc; subst hra
  have va := num_vld (n := a) (by omega)
  unfold codeOf at hl ⊢
  have hbl : (body ⟨op, a, b, c, t⟩).length ≤ 2000000 := by rw [pr_len] at hl; omega
  refine vld_pr (num_vld (by rcases hc with h | h | h | h <;> simp only <;> omega)) ?_ hl
  clear hl
  rcases hc with ⟨rfl, rfl, rfl, hv⟩ | ⟨ho, hb, rfl, rfl⟩ | ⟨rfl, hb, hc, rfl⟩ | ⟨rfl, rfl, rfl, hb1, hb2⟩
  · simp only [body] at hbl ⊢; exact vld_pr va hv hbl
  · obtain ⟨b, rfl, hlb⟩ := reg_nat hb
    have vb := num_vld (n := b) (by omega)
    have e : body ⟨op, a, b, 0, []⟩ = pr (num a) (num b) := by rcases ho with rfl | rfl | rfl <;> simp [body]
    rw [e] at hbl ⊢; exact vld_pr va vb hbl
  · obtain ⟨b, rfl, hlb⟩ := reg_nat hb
    obtain ⟨c, rfl, hlc⟩ := reg_nat hc
    have vb := num_vld (n := b) (by omega)
    have vc := num_vld (n := c) (by omega)
    have e : body ⟨2, a, b, c, []⟩ = pr (num a) (pr (num b) (num c)) := by simp [body]
    rw [e] at hbl ⊢
    exact vld_pr va (vld_pr vb vc (by rw [pr_len] at hbl; omega)) hbl
  · have w0 : vld [48] = true := by decide
    have w1 : vld [49, 48, 48] = true := by decide
    by_cases hb : b < 0
    · have vb := num_vld (n := (-b).toNat) (by omega)
      have e : body ⟨5, a, b, 0, []⟩ = pr (num a) (pr [49, 48, 48] (num (-b).toNat)) := by simp [body, hb]
      rw [e] at hbl ⊢
      exact vld_pr va (vld_pr w1 vb (by rw [pr_len] at hbl; omega)) hbl
    · have vb := num_vld (n := b.toNat) (by omega)
      have e : body ⟨5, a, b, 0, []⟩ = pr (num a) (pr [48] (num b.toNat)) := by simp [body, hb]
      rw [e] at hbl ⊢
      exact vld_pr va (vld_pr w0 vb (by rw [pr_len] at hbl; omega)) hbl
theorem enc_item {ls : List (List UInt8)} : ∀ l ∈ ls, l.length ≤ (enc ls).length := by
  induction ls with
  | nil => intro l h; simp at h
  | cons y ls ih =>
    intro l h
    simp only [enc, List.length_cons, List.length_append]
    rcases List.mem_cons.1 h with rfl | h
    · omega
    · have := ih l h; omega
theorem PValid.at {ps : List Ins} (h : PValid ps) : ∀ x ∈ ps, ∃ i : Int, right x i ps.length = true ∧ 0 ≤ i ∧ i ≤ 4000 := by
  intro x hx
  obtain ⟨k, hk, rfl⟩ := List.mem_iff_getElem.1 hx
  exact ⟨k, h.2.2 k _ (List.getElem?_eq_getElem hk), by omega, by have := h.1; omega⟩
theorem codes_vld {ps : List Ins} (h : PValid ps) (hl : (enc (codes ps)).length ≤ 2000000) : ∀ l ∈ codes ps, vld l = true := by
  intro l hm
  have h1 := enc_item l hm
  obtain ⟨x, hx, rfl⟩ := List.mem_map.1 hm
  obtain ⟨i, h2, h3, h4⟩ := h.at x hx
  exact vld_code h2 h3 h4 (by have := h.1; omega) (by omega)
theorem code_items {ps : List Ins} (h : PValid ps) (hl : (enc (codes ps)).length ≤ 2000000) : itemsOf (enc (codes ps)) = codes ps := items_of_enc (codes_vld h hl) hl
theorem decs_codes {ps : List Ins} (h : PValid ps) : decs (codes ps) = ps := by
  unfold decs codes
  rw [List.map_map]
  conv => rhs; rw [← List.map_id ps]
  refine List.map_congr_left fun x hx => ?_
  obtain ⟨i, h2, _⟩ := h.at x hx
  exact dec_code h2
/-- a valid program whose code is a tree is read back from it -/
theorem code_back {ps : List Ins} (h : PValid ps) (hl : (enc (codes ps)).length ≤ 2000000) : decs (itemsOf (enc (codes ps))) = ps := by rw [code_items h hl, decs_codes h]
theorem code_inj {ps qs : List Ins} (hp : PValid ps) (hq : PValid qs) (hl : (enc (codes ps)).length ≤ 2000000) (h : enc (codes ps) = enc (codes qs)) : ps = qs := by
  rw [← code_back hp hl, h, code_back hq (by rw [← h]; exact hl)]
end Go.Proofs.YtmhoacnbmbhcjaaGreatDoor
