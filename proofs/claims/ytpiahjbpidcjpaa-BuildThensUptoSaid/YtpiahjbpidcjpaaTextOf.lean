/- The reference's names, TextOf. By an AI agent. -/
import Derived.Test.YtpiahjbpidcjpaaDecimal
import Derived.Deep.RegionWith
import Derived.Deep.DeepCutAuto
namespace Go.Proofs.Ytpiahjbpidcjpaa
open Go.RowKit Pl

/-- the names of the operations -/
def nms : List (List UInt8) := [[115, 101, 116], [109, 111, 118, 101], [99, 111, 110, 115], [104, 101, 97, 100], [116, 97, 105, 108], [106, 117, 109, 112]]
def nm (op : Int) : List UInt8 := nms.getD op.toNat []
def textOf (x : Ins) : List UInt8 :=
  nm x.op ++ [32] ++ dint x.a ++ (if x.op = 0 then [32] ++ x.tree else if x.op = 2 then [32] ++ dint x.b ++ [32] ++ dint x.c else [32] ++ dint x.b)
theorem dint_len (n : Int) : (dint n).length ≤ n.natAbs + 2 := by
  have := dg_len n.natAbs
  unfold dint; split <;> simp <;> omega
theorem names_any (w : World) :
    Calls Try.prog 134 #[] w fun e w' => e = .returned (.slice (some ⟨w.heap.size, 0, none⟩) 6 6) ∧ w' = w.alloc (.cells #[.string ⟨#[115, 101, 116]⟩, .string ⟨#[109, 111, 118, 101]⟩, .string ⟨#[99, 111, 110, 115]⟩, .string ⟨#[104, 101, 97, 100]⟩, .string ⟨#[116, 97, 105, 108]⟩, .string ⟨#[106, 117, 109, 112]⟩] 9) := by
  go_enter Try.func134, Try.ntmps134
  go_wp2
  go_ret
  exact ⟨rfl, rfl⟩
theorem names_at (w : World) :
    Calls Try.prog 134 #[] w fun e w' => e = .returned (.slice (some ⟨w.heap.size, 0, none⟩) 6 6) ∧ Below w.heap.size w w' ∧ w'.heap.size = w.heap.size + 1 ∧
      w'.cell? ⟨w.heap.size, 0, none⟩ = some (.string ⟨#[115, 101, 116]⟩) ∧ w'.cell? ⟨w.heap.size, 1, none⟩ = some (.string ⟨#[109, 111, 118, 101]⟩) ∧ w'.cell? ⟨w.heap.size, 2, none⟩ = some (.string ⟨#[99, 111, 110, 115]⟩) ∧ w'.cell? ⟨w.heap.size, 3, none⟩ = some (.string ⟨#[104, 101, 97, 100]⟩) ∧ w'.cell? ⟨w.heap.size, 4, none⟩ = some (.string ⟨#[116, 97, 105, 108]⟩) ∧ w'.cell? ⟨w.heap.size, 5, none⟩ = some (.string ⟨#[106, 117, 109, 112]⟩) := by
  refine (names_any w).mono ?_
  rintro e w1 ⟨rfl, rfl⟩
  refine ⟨rfl, (Below.refl _ _).alloc (Nat.le_refl _) _, by simp, ?_⟩
  simp only [World.cell?, heap_alloc_new]
  exact ⟨rfl, rfl, rfl, rfl, rfl, rfl⟩
theorem cell_eq {W : World} {k k' o : Nat} {v : Value} (h : W.cell? ⟨k, o, none⟩ = some v) (e : k = k') : W.cell? ⟨k', o, none⟩ = some v := by rw [← e]; exact h
theorem keep01 {W w1 : World} {B : Nat} {u v : Value} (h : Below W.heap.size W w1) (hB : B < W.heap.size) (hc : W.cell? ⟨B, 0, none⟩ = some u ∧ W.cell? ⟨B, 1, none⟩ = some v) :
    w1.cell? ⟨B, 0, none⟩ = some u ∧ w1.cell? ⟨B, 1, none⟩ = some v := ⟨by rw [h.cell (p := ⟨B, 0, none⟩) hB]; exact hc.1, by rw [h.cell (p := ⟨B, 1, none⟩) hB]; exact hc.2⟩
theorem names_k (k : Nat) (hk : k < 6) (w : World) :
    Calls Try.prog 134 #[] w fun e w' => e = .returned (.slice (some ⟨w.heap.size, 0, none⟩) 6 6) ∧ Below w.heap.size w w' ∧ w'.heap.size = w.heap.size + 1 ∧
      w'.cell? ⟨w.heap.size, k, none⟩ = some (.string (S (nms.getD k []))) := by
  refine (names_at w).mono ?_
  rintro e w1 ⟨rfl, h1, h2, n0, n1, n2, n3, n4, n5⟩
  refine ⟨rfl, h1, h2, ?_⟩
  have h : k = 0 ∨ k = 1 ∨ k = 2 ∨ k = 3 ∨ k = 4 ∨ k = 5 := by omega
  rcases h with rfl | rfl | rfl | rfl | rfl | rfl
  · exact n0
  · exact n1
  · exact n2
  · exact n3
  · exact n4
  · exact n5
theorem nms_len (k : Nat) : (nms.getD k []).length ≤ 4 := by
  rcases Nat.lt_or_ge k 6 with h | h
  · have h : k = 0 ∨ k = 1 ∨ k = 2 ∨ k = 3 ∨ k = 4 ∨ k = 5 := by omega
    rcases h with rfl | rfl | rfl | rfl | rfl | rfl <;> decide
  · rw [List.getD_eq_getElem?_getD, List.getElem?_eq_none (by simpa [nms] using h)]; simp

set_option maxHeartbeats 3200000 in
set_option maxRecDepth 100000 in
theorem TextOf_k (k : Nat) (a b c : Int) (t : List UInt8) (w : World) (hk : k < 6) (ha0 : -1000000 ≤ a) (ha : a ≤ 1000000) (hb0 : -1000000 ≤ b) (hb : b ≤ 1000000) (hc0 : -1000000 ≤ c) (hc : c ≤ 1000000) (ht : t.length ≤ 2000000) :
    Calls Try.prog 126 #[.agg #[.int .i64 k, .int .i64 a, .int .i64 b, .int .i64 c, .string (S t)]] w fun e w' => e = .returned (.string (S (textOf ⟨k, a, b, c, t⟩))) ∧ Below w.heap.size w w' := by
  have HN := Lib.hid (fun W => names_k k hk W)
  have HA := Lib.hid (fun W => Decimal_any a W ha0 ha)
  have HB := Lib.hid (fun W => Decimal_any b W hb0 hb)
  have HC := Lib.hid (fun W => Decimal_any c W hc0 hc)
  have la := dint_len a; have lb := dint_len b; have lc := dint_len c
  have la2 : (dint a).length ≤ 1000002 := by omega
  have lb2 : (dint b).length ≤ 1000002 := by omega
  have lc2 : (dint c).length ≤ 1000002 := by omega
  have ln := nms_len k
  have HS : Hid (textOf ⟨k, a, b, c, t⟩ = nms.getD k [] ++ [32] ++ dint a ++ (if (k : Int) = 0 then [32] ++ t else if (k : Int) = 2 then [32] ++ dint b ++ [32] ++ dint c else [32] ++ dint b)) := Lib.hid (by simp [textOf, nm])
  generalize dint a = da at *
  generalize dint b = db at *
  generalize dint c = dc at *
  generalize nms.getD k [] = nk at *
  have i0 : (0 : Int) ≤ (k : Int) := by omega
  have i1 : (k : Int) < 6 := by omega
  clear la lb lc ha0 ha hb0 hb hc0 hc hk
  go_enter Try.func126, Try.ntmps126
  have hx := boxed (Below.refl (w.alloc (.cells #[.int .i64 k, .int .i64 a, .int .i64 b, .int .i64 c, .string (S t)] 57)).heap.size (w.alloc (.cells #[.int .i64 k, .int .i64 a, .int .i64 b, .int .i64 c, .string (S t)] 57)))
  go_upto_region 1 with fail
  go_cut [3] (fun s3 wx => s3 = .string (S (nk ++ [32] ++ da)) ∧ Below w.heap.size w wx ∧ w.heap.size < wx.heap.size ∧ wx.cell? ⟨w.heap.size, 0, none⟩ = some (.int .i64 k) ∧ wx.cell? ⟨w.heap.size, 2, none⟩ = some (.int .i64 b) ∧ wx.cell? ⟨w.heap.size, 3, none⟩ = some (.int .i64 c) ∧ wx.cell? ⟨w.heap.size, 4, none⟩ = some (.string (S t)))
  case first =>
    have l1 : ¬ 9223372036854775807 < nk.length + 1 := by omega
    have l2 : ¬ 9223372036854775807 < nk.length + 1 + da.length := by omega
    go_region_with (first
      | (go_at_call 134; refine (HN.out _).mono ?_; rintro e w1 ⟨rfl, h1, z1, n0⟩; have m0 := cell_eq n0 (show _ = w.heap.size + 1 by simp); clear n0; have q0 := cell_keep h1 hx.1; have q1 := cell_keep h1 hx.2.1)
      | (go_at_call 135; (with_reducible refine (HA.out _).mono ?_); rintro e w2 ⟨rfl, h2⟩; have m := cell_keep h2 m0; have q2 := cell_keep h2 q0))
    all_goals (
      have hb1 := ((Below.refl (w.alloc (.cells #[.int .i64 k, .int .i64 a, .int .i64 b, .int .i64 c, .string (S t)] 57)).heap.size (w.alloc (.cells #[.int .i64 k, .int .i64 a, .int .i64 b, .int .i64 c, .string (S t)] 57))).drew).trans h1
      have hb2 := bstep hb1 h2
      have hcs := boxed hb2
      have hbb : Below w.heap.size w w2 := bstep ((Below.refl _ w).alloc (Nat.le_refl _) _) hb2
      have hzz : w.heap.size < w2.heap.size := by have := hb2.size; simp at this; omega
      go_wp2_with fail
      go_meet
      exact ⟨congrArg Value.string (S_inj (by simp)), hbb, hzz, hcs.1, hcs.2.2.1, hcs.2.2.2.1, hcs.2.2.2.2⟩)
  case rest =>
    obtain ⟨rfl, hb, hzz, c0, c2, c3, c4⟩ := hcut
    have hl3 : (nk ++ [32] ++ da).length ≤ 2000000 := by simp; omega
    by_cases h0 : k = 0
    · subst h0
      have HS2 : Hid (textOf ⟨((0 : Nat) : Int), a, b, c, t⟩ = nk ++ [32] ++ da ++ ([32] ++ t)) := Lib.hid (HS.out.trans (by simp))
      generalize nk ++ [32] ++ da = pre at *
      clear HS
      go_wp2_with fail
      go_ret
      exact ⟨ret_str (by rw [HS2.out]; exact S_inj (by simp)), hb⟩
    · by_cases h2 : k = 2
      · subst h2
        have HS2 : Hid (textOf ⟨((2 : Nat) : Int), a, b, c, t⟩ = nk ++ [32] ++ da ++ ([32] ++ db ++ [32] ++ dc)) := Lib.hid (HS.out.trans (by simp))
        generalize nk ++ [32] ++ da = pre at *
        have l1 : ¬ 9223372036854775807 < pre.length + 1 := by omega
        have l2 : ¬ 9223372036854775807 < pre.length + 1 + db.length := by omega
        have l3 : ¬ 9223372036854775807 < pre.length + 1 + db.length + 1 := by omega
        have l4 : ¬ 9223372036854775807 < pre.length + 1 + db.length + 1 + dc.length := by omega
        clear HS
        go_wp2_with fail
        go_region_held3 (fun w' => w'.cell? ⟨w.heap.size, 2, none⟩ = some (.int .i64 b) ∧ w'.cell? ⟨w.heap.size, 3, none⟩ = some (.int .i64 c))
          (first
            | go_keep
            | assumption
            | exact keep2 h2 (by exact hzz) (by assumption)
            | exact keep2 h3 (by exact Nat.lt_of_lt_of_le hzz h2.size) (by assumption))
          (first
            | (go_at_call 135; (with_reducible refine (HB.out _).mono ?_); rintro e w2 ⟨rfl, h2⟩)
            | (go_at_call 135; (with_reducible refine (HC.out _).mono ?_); rintro e w3 ⟨rfl, h3⟩))
        go_wp2_with fail
        go_ret
        exact ⟨ret_str (by rw [HS2.out]; exact S_inj (by simp)), hb.drew.trans ((bstep h2 h3).mono hb.size)⟩
      · have o0 : ((k : Int) == 0) = false := beq_eq_false_iff_ne.2 (by omega)
        have o2 : ((k : Int) == 2) = false := beq_eq_false_iff_ne.2 (by omega)
        have HS2 : Hid (textOf ⟨(k : Int), a, b, c, t⟩ = nk ++ [32] ++ da ++ ([32] ++ db)) := Lib.hid (HS.out.trans (by rw [if_neg (by omega), if_neg (by omega)]))
        generalize nk ++ [32] ++ da = pre at *
        clear HS h0 h2
        go_wp2_with fail
        refine (HB.out _).mono ?_
        rintro e w2 ⟨rfl, h2⟩
        go_wp2_with fail
        go_ret
        exact ⟨ret_str (by rw [HS2.out]; exact S_inj (by simp)), hb.trans (h2.mono hb.size)⟩
theorem right_op {x : Ins} {i n : Int} (h : right x i n = true) : ∃ k : Nat, x.op = (k : Int) ∧ k < 6 := by
  obtain ⟨_, hc⟩ := right_cases h
  refine ⟨x.op.toNat, ?_, ?_⟩ <;> omega
theorem right_tree_len {x : Ins} {i n : Int} (h : right x i n = true) : x.tree.length ≤ 2000000 := right_tree_le h
theorem TextOf_any (x : Ins) (i n : Int) (w : World) (hr : right x i n = true) (hi0 : 0 ≤ i) (hi1 : i ≤ 4000) (hn1 : n ≤ 4000) :
    Calls Try.prog 126 #[x.agg] w fun e w' => e = .returned (.string (S (textOf x))) ∧ Below w.heap.size w w' := by
  obtain ⟨⟨a0, a1⟩, ⟨b0, b1⟩, ⟨c0, c1⟩, _⟩ := right_small hr hi0 hi1 hn1
  have ht := right_tree_len hr
  obtain ⟨k, hk, hk6⟩ := right_op hr
  obtain ⟨op, a, b, c, t⟩ := x
  simp only at hk a0 a1 b0 b1 c0 c1 ht
  subst hk
  exact TextOf_k k a b c t w hk6 (by omega) (by omega) (by omega) (by omega) (by omega) (by omega) ht
theorem TO_step (x : Ins) (k n : Nat) (hk : k ≤ 4000) (hn : n ≤ 4000) (hv : right x k n = true) (W : World) :
    Calls Try.prog 126 #[.agg #[.int .i64 x.op, .int .i64 x.a, .int .i64 x.b, .int .i64 x.c, .string (S x.tree)]] W fun e w' => e = .returned (.string (S (textOf x))) ∧ Below W.heap.size W w' :=
  TextOf_any x k n W hv (by omega) (by omega) (by omega)
theorem textOf_len {x : Ins} {i n : Int} (h : right x i n = true) (hi0 : 0 ≤ i) (hi : i ≤ 4000) (hn : n ≤ 4000) : (textOf x).length ≤ 5000 + x.tree.length := by
  obtain ⟨⟨a0, a1⟩, ⟨b0, b1⟩, ⟨c0, c1⟩, _⟩ := right_small h hi0 hi hn
  have la := dint_len x.a; have lb := dint_len x.b; have lc := dint_len x.c
  have ln := nms_len x.op.toNat
  unfold textOf nm
  (repeat' split) <;> simp only [List.length_append, List.length_cons, List.length_nil] <;> omega
end Go.Proofs.Ytpiahjbpidcjpaa
