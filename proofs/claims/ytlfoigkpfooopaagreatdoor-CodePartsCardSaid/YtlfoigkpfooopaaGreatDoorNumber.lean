/- The contract of Number of the reference; the walk of TreeNumbers. By an AI agent. -/
import Derived.Test.YtlfoigkpfooopaaGreatDoorLawA
namespace Go.Proofs.YtlfoigkpfooopaaGreatDoor
open Go.RowKit Pl

theorem Tryz.infoByte : (Tryz.prog.info? 5).map (fun i => (i.zero, i.size, i.bytes)) = some (some (.int .u8 0), 1, 1) := by kernel_rfl
def numTo (k : Nat) : List UInt8 := (List.replicate k [49, 48]).flatten
theorem numTo_succ (k : Nat) : numTo (k + 1) = numTo k ++ [49, 48] := by unfold numTo; rw [List.replicate_succ']; simp
theorem num_to (k : Nat) : num k = numTo k ++ [48] := rfl
theorem numTo_len (k : Nat) : (numTo k).length = 2 * k := by
  induction k with
  | zero => rfl
  | succ k ih => rw [numTo_succ]; simp [ih]; omega

theorem app_below {B : Nat} {w wr w1 : World} {e : TypeId} {size : Nat} {v : Value} {n : Nat} {xs : List Value} {o : Obj} (hnx : Below B w wr) (hB : B ≤ wr.heap.size) (hown : wr.ownsRow B e size v n xs) (hgrow : (wr.alloc o).grownBy w1 v.ownBlock) : Below B w w1 :=
  (hnx.alloc hB o).grown hgrow (by simp; omega) (fun k h => (hown.lt k h).1)
theorem own_bytes {w : World} {base n : Nat} {e : TypeId} {v : Value} {l : List UInt8} (h : w.ownsRow base e 1 v n (Lib.byteCells l)) (hl : 0 < n) :
    ∃ g cap, v = .slice (some ⟨g, 0, none⟩) l.length cap ∧ n = l.length ∧ ∀ j (hj : j < l.length), w.cell? ((⟨g, 0, none⟩ : Addr).add j) = some (.int .u8 (l[j].toNat : Int)) := by
  have hc := fun (g : Nat) => h.cells (g := g)
  obtain ⟨h1, h2⟩ := h
  rw [Lib.byteCells_length, Nat.mul_one] at h1
  rcases h2 with ⟨_, h0⟩ | ⟨g, cap, cur, rfl, _⟩
  · omega
  · refine ⟨g, cap, by rw [h1], h1.symm, fun j hj => hc g (by simp [Value.ownBlock]) j _ (by simp [Lib.byteCells, hj])⟩

set_option maxHeartbeats 1600000 in
set_option maxRecDepth 100000 in
theorem rNumber_yes (n : Nat) (w : World) (h : n ≤ 999999) :
    Calls Tryz.prog 52 #[.int .i64 n] w fun e w' => e = .returned (.string (S (num n))) ∧ Below w.heap.size w w' := by
  obtain ⟨i0, hi, hz0, hz1, hz2⟩ := info_parts Tryz.infoByte
  go_enter Tryz.func52, Tryz.ntmps52
  go_wp2_with (at_make; refine wpList_make_own _ rfl _ _ 54 rfl w.heap.size 5 i0 (.int .u8 0) 1 Tryz.underlying54 hi hz0 hz1 _ _ _ (2 * n + 1) rfl rfl (by omega) ?b2 ?b3 (Nat.le_refl _) ?_)
  case b2 => rw [hz2]; omega
  case b3 => unfold maxLen; omega
  intro w0 hown0 hgrow0
  go_wp2
  go_loopw [3, 4] (fun out i wr => ∃ k : Nat, k ≤ n ∧ i = .int .i64 k ∧ wr.ownsRow w.heap.size 5 1 out (2 * k) (Lib.byteCells (numTo k)) ∧ Below w.heap.size w wr) (fun _ i _ => n - (intOf i).toNat)
  case atStart => exact ⟨0, Nat.zero_le _, rfl, hown0, (Below.refl _ _).grown hgrow0 (Nat.le_refl _) (fun k h => by cases h)⟩
  case round =>
    obtain ⟨k, hk, rfl, hown, hnx⟩ := hrel
    by_cases hlt : k < n
    · go_wp2_with (at_builtin; refine wpList_append_own _ rfl _ _ 54 rfl w.heap.size 5 i0 (.int .u8 0) 1 1 Tryz.underlying54 hi hz0 hz1 hz2 rfl (by decide) _ _ _ rfl (hown.alloc _) ⟨wr.heap.size, 0, none⟩ 2 2 [.int .u8 49, .int .u8 48] rfl rfl ?c1 ?c2 ?c3 ?c4 ?c5 ?_)
      case c1 =>
        intro t u ht
        match t, ht with
        | 0, ht => simp at ht; subst ht; simp [Addr.add]
        | 1, ht => simp at ht; subst ht; simp [Addr.add]
      case c2 => intro u hu; simp at hu; rcases hu with rfl | rfl <;> rfl
      case c3 => unfold maxLen; omega
      case c4 => omega
      case c5 => have := hnx.size; simp; omega
      intro v' w1 hown' hgrow _
      have hb1 := app_below hnx hnx.size hown hgrow
      have ho1 : w1.ownsRow w.heap.size 5 1 v' (2 * (k + 1)) (Lib.byteCells (numTo (k + 1))) := by
        rw [numTo_succ, Lib.byteCells_append]; exact hown'
      clear hown' hgrow hown hnx
      have HO := Lib.hid ho1; clear ho1
      go_wp2
      go_roundw
      case rel => exact ⟨k + 1, by omega, by go_num, HO.out, hb1⟩
      case measure => simp [intOf]; omega
    · obtain rfl : k = n := by omega
      go_wp2_with (at_builtin; refine wpList_append_own _ rfl _ _ 54 rfl w.heap.size 5 i0 (.int .u8 0) 1 1 Tryz.underlying54 hi hz0 hz1 hz2 rfl (by decide) _ _ _ rfl (hown.alloc _) ⟨wr.heap.size, 0, none⟩ 1 1 [.int .u8 48] rfl rfl ?d1 ?d2 ?d3 ?d4 ?d5 ?_)
      case d1 =>
        intro t u ht
        match t, ht with
        | 0, ht => simp at ht; subst ht; simp [Addr.add]
      case d2 => intro u hu; simp at hu; subst hu; rfl
      case d3 => unfold maxLen; omega
      case d4 => omega
      case d5 => have := hnx.size; simp; omega
      intro v' w1 hown' hgrow _
      have hb1 := app_below hnx hnx.size hown hgrow
      have ho1 : w1.ownsRow w.heap.size 5 1 v' (2 * k + 1) (Lib.byteCells (num k)) := by
        rw [num_to, Lib.byteCells_append]; exact hown'
      clear hown' hgrow hown hnx
      obtain ⟨g, cap, rfl, hn, hcell⟩ := own_bytes ho1 (by omega)
      have hcv := run_convert_bytes_back (P := Tryz.prog) w1 54 9 5 ⟨g, 0, none⟩ cap (num k) Tryz.underlying54 Tryz.underlying5 Tryz.underlying9 hcell
      generalize hL : num k = l at *
      have HN := Lib.hid hn; have HL := Lib.hid hL; clear hn hL ho1 hcell
      go_wp2
      go_ret
      exact ⟨ret_str (by rw [HL.out]), hb1⟩

end Go.Proofs.YtlfoigkpfooopaaGreatDoor
