/- The reference's Twin; programs as cells. By an AI agent. -/
import Derived.Test.YtpiahjbpidcjpaaProsB
namespace Go.Proofs.Ytpiahjbpidcjpaa
open Go.RowKit Pl

def Ins.cells (x : Ins) : List Value := [.int .i64 x.op, .int .i64 x.a, .int .i64 x.b, .int .i64 x.c, .string (S x.tree)]
/-- programs as cells -/
def progV (ps : List Ins) : List Value := ps.flatMap Ins.cells
theorem progV_cons (x : Ins) (ps : List Ins) : progV (x :: ps) = x.cells ++ progV ps := rfl
theorem progV_app (a b : List Ins) : progV (a ++ b) = progV a ++ progV b := by simp [progV]
theorem progV_one (x : Ins) : progV [x] = x.cells := by simp [progV]
theorem progV_len (ps : List Ins) : (progV ps).length = ps.length * 5 := by
  induction ps with
  | nil => rfl
  | cons x ps ih => rw [progV_cons, List.length_append, ih, List.length_cons]; simp only [Ins.cells, List.length_cons, List.length_nil]; omega
theorem progV_at : ∀ {ps : List Ins} {k : Nat} {x : Ins} {j : Nat}, ps[k]? = some x → j < 5 → (progV ps)[k * 5 + j]? = x.cells[j]? := by
  intro ps
  induction ps with
  | nil => intro k x j h; simp at h
  | cons y ps ih =>
    intro k x j h hj
    cases k with
    | zero =>
      simp at h; subst h
      rw [progV_cons, List.getElem?_append_left (by simp [Ins.cells]; omega)]; simp
    | succ k =>
      simp at h
      rw [progV_cons, List.getElem?_append_right (by simp [Ins.cells]; omega)]
      rw [← ih h hj]
      congr 1
      simp only [Ins.cells, List.length_cons, List.length_nil]; omega
theorem progV_get {ps : List Ins} {t : Nat} {u : Value} (h : (progV ps)[t]? = some u) : ∃ k x j, t = k * 5 + j ∧ j < 5 ∧ ps[k]? = some x ∧ x.cells[j]? = some u := by
  have ht := (List.getElem?_eq_some_iff.1 h).1
  rw [progV_len] at ht
  obtain ⟨x, hx⟩ := get_at (ps := ps) (k := t / 5) (by omega)
  refine ⟨t / 5, x, t % 5, by omega, by omega, hx, ?_⟩
  rw [← progV_at hx (by omega), show t / 5 * 5 + t % 5 = t from by omega]; exact h
theorem progV_oneCell (ps : List Ins) : ∀ u ∈ progV ps, u.oneCell' = true := by
  intro u hu
  simp only [progV, List.mem_flatMap] at hu
  obtain ⟨x, _, hu⟩ := hu
  simp only [Ins.cells, List.mem_cons, List.not_mem_nil, or_false] at hu
  rcases hu with rfl | rfl | rfl | rfl | rfl <;> rfl
theorem ProgAt.cell {w : World} {b off : Nat} {ps : List Ins} (h : ProgAt w b off ps) : ∀ j u, (progV ps)[j]? = some u → w.cell? ((⟨b, off, none⟩ : Addr).add j) = some u := by
  intro j u hu
  obtain ⟨k, x, i, rfl, hi, hx, hu⟩ := progV_get hu
  rw [show ((⟨b, off, none⟩ : Addr).add (k * 5 + i)) = ⟨b, off + k * 5 + i, none⟩ from by unfold Addr.add; split <;> simp_all; omega]
  obtain ⟨h0, h1, h2, h3, h4⟩ := h.2 k x hx
  match i, hi with
  | 0, _ => rw [show off + k * 5 + 0 = off + k * 5 from rfl, h0]; simpa [Ins.cells] using hu
  | 1, _ => rw [h1]; simpa [Ins.cells] using hu
  | 2, _ => rw [h2]; simpa [Ins.cells] using hu
  | 3, _ => rw [h3]; simpa [Ins.cells] using hu
  | 4, _ => rw [h4]; simpa [Ins.cells] using hu
theorem ProgAt.news {w : World} {b off : Nat} {ps : List Ins} (h : ProgAt w b off ps) (o : Obj) : ∀ j u, (progV ps)[j]? = some u → (w.alloc o).cell? ((⟨b, off, none⟩ : Addr).add j) = some u := by
  intro j u hu
  have := h.cell j u hu
  rw [show ((⟨b, off, none⟩ : Addr).add j) = ⟨b, off + j, none⟩ from by unfold Addr.add; split <;> simp_all] at this ⊢
  rw [World.cell?_alloc_past _ _ _ h.1, this]
theorem progAt_of {w : World} {g : Nat} {ps : List Ins} (hg : g < w.heap.size) (h : ∀ j u, (progV ps)[j]? = some u → w.cell? ((⟨g, 0, none⟩ : Addr).add j) = some u) : ProgAt w g 0 ps := by
  refine ⟨hg, fun k x hx => ?_⟩
  have e : ∀ j, j < 5 → ∀ u, x.cells[j]? = some u → w.cell? ⟨g, 0 + k * 5 + j, none⟩ = some u := fun j hj u hu => by
    have := h (k * 5 + j) u (by rw [progV_at hx hj]; exact hu)
    rw [show ((⟨g, 0, none⟩ : Addr).add (k * 5 + j)) = ⟨g, 0 + k * 5 + j, none⟩ from by unfold Addr.add; split <;> simp_all] at this
    exact this
  exact ⟨e 0 (by omega) _ rfl, e 1 (by omega) _ rfl, e 2 (by omega) _ rfl, e 3 (by omega) _ rfl, e 4 (by omega) _ rfl⟩
theorem own_prog {w : World} {base n : Nat} {e : TypeId} {v : Value} {ps : List Ins} (h : w.ownsRow base e 5 v n (progV ps)) : n = ps.length ∧ ArgP w v ps ∧ (0 < n → ∃ g cap, v = .slice (some ⟨g, 0, none⟩) ps.length cap ∧ base ≤ g ∧ ProgAt w g 0 ps) := by
  have hc := fun (g : Nat) => h.cells (g := g)
  have hlt := h.lt
  obtain ⟨h1, h2⟩ := h
  rw [progV_len] at h1
  have hn : n = ps.length := by omega
  subst hn
  rcases h2 with ⟨rfl, h0⟩ | ⟨g, cap, cur, rfl, _⟩
  · exact ⟨rfl, Or.inl ⟨List.eq_nil_of_length_eq_zero h0, Or.inl rfl⟩, fun h => absurd h (by omega)⟩
  · have hp := progAt_of (ps := ps) (hlt g rfl).2 (hc g (by simp [Value.ownBlock]))
    refine ⟨rfl, ?_, fun _ => ⟨g, cap, rfl, (hlt g rfl).1, hp⟩⟩
    rcases Nat.eq_zero_or_pos ps.length with h0 | h0
    · exact Or.inl ⟨List.eq_nil_of_length_eq_zero h0, Or.inr ⟨⟨g, 0, none⟩, cap, by rw [h0]⟩⟩
    · exact Or.inr ⟨h0, g, 0, cap, rfl, hp⟩

theorem Twin_nil (w : World) :
    Calls Try.prog 13 #[.slice none 0 0] w fun e w' => ∃ v, e = .returned v ∧ w'.ownsRow w.heap.size 57 5 v 0 [] ∧ Below w.heap.size w w' := by
  obtain ⟨i0, hi, hz0, hz1, hz2⟩ := info_parts Try.infoIns
  have HO := Lib.hid (World.ownsRow_lit (e := 57) (size := 5) (base := w.heap.size) w #[] 0 (Nat.le_refl _) (by unfold maxLen; omega) rfl)
  go_enter Try.func13, Try.ntmps13
  go_wp2_with (at_builtin; refine wpList_append_own_none rfl _ _ 23 rfl w.heap.size 57 i0 5 Try.underlying23 hi _ _ _ rfl HO.out rfl ?_)
  go_ret
  exact ⟨_, rfl, HO.out, (Below.refl _ _).alloc (Nat.le_refl _) _⟩
set_option maxHeartbeats 800000 in
set_option maxRecDepth 100000 in
theorem Twin_some (w : World) (ad : Addr) (m cap : Nat) (ps : List Ins) (hm : m = ps.length) (hz : m * 48 ≤ 140737488355328) (hc : ∀ (o : Obj), ∀ j u, (progV ps)[j]? = some u → (w.alloc o).cell? (ad.add j) = some u) :
    Calls Try.prog 13 #[.slice (some ad) m cap] w fun e w' => ∃ v, e = .returned v ∧ w'.ownsRow w.heap.size 57 5 v m (progV ps) ∧ Below w.heap.size w w' := by
  obtain ⟨i0, hi, hz0, hz1, hz2⟩ := info_parts Try.infoIns
  have HO := Lib.hid (World.ownsRow_lit (e := 57) (size := 5) (base := w.heap.size) w #[] 0 (Nat.le_refl _) (by unfold maxLen; omega) rfl)
  have HL := Lib.hid (show (progV ps).length = m * 5 by rw [progV_len, hm])
  have HC := Lib.hid hc; have H1 := Lib.hid (progV_oneCell ps)
  clear hm hc
  go_enter Try.func13, Try.ntmps13
  go_wp2_with (at_builtin; refine wpList_append_own _ rfl _ _ 23 rfl w.heap.size 57 i0 (.agg #[.int .i64 0, .int .i64 0, .int .i64 0, .int .i64 0, .string ⟨#[]⟩]) 5 48 Try.underlying23 hi hz0 hz1 hz2 rfl (by decide) _ _ _ rfl HO.out ad m cap (progV ps) rfl HL.out (HC.out _) H1.out (by unfold maxLen; omega) (by omega) (by simp) ?_; intro v' w0 hown hgrow _)
  have h0 : Below w.heap.size w w0 := ((Below.refl _ w).alloc (Nat.le_refl _) _).grown hgrow (by simp) (fun k h => (HO.out.lt k h).1)
  rw [Nat.zero_add, List.nil_append] at hown
  have HW := Lib.hid hown
  clear hown hgrow
  go_wp2_with fail
  go_ret
  exact ⟨_, rfl, HW.out, h0⟩
theorem Twin_arg (w : World) (v : Value) (ps : List Ins) (h : ArgP w v ps) (hz : ps.length * 48 ≤ 140737488355328) :
    Calls Try.prog 13 #[v] w fun e w' => ∃ v', e = .returned v' ∧ w'.ownsRow w.heap.size 57 5 v' ps.length (progV ps) ∧ Below w.heap.size w w' := by
  rcases h with ⟨rfl, rfl | ⟨ad, cap, rfl⟩⟩ | ⟨_, b, off, cap, rfl, hc⟩
  · exact Twin_nil w
  · exact Twin_some w ad 0 cap [] rfl hz (by intro o j u h; simp [progV] at h)
  · exact Twin_some w _ _ cap ps rfl hz (hc.news)
end Go.Proofs.Ytpiahjbpidcjpaa
