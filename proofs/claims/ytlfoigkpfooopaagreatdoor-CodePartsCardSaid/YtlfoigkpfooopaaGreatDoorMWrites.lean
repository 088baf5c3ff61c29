/- The method code: one instruction's code. By an AI agent. -/
import Derived.BigQuiet
import Derived.Test.YtlfoigkpfooopaaGreatDoorFits
namespace Go.Proofs.YtlfoigkpfooopaaGreatDoor
open Go.RowKit Pl

def nestT : List (List UInt8) → List UInt8
  | [] => []
  | [z] => z
  | x :: xs => pr x (nestT xs)
theorem nestT_snoc (xs : List (List UInt8)) (z : List UInt8) : nestT (xs ++ [z]) = nestL xs z := by
  induction xs with
  | nil => rfl
  | cons x xs ih =>
    cases xs with
    | nil => rfl
    | cons y ys => rw [List.cons_append, List.cons_append, nestT, ← List.cons_append, ih]; rfl; intro h; cases h
/-- the trees of which an instruction's code is nested -/
def treesOf (x : Ins) (k : Nat) : List (List UInt8) := num k :: (fldsOf k).map (Fld.cod x)
theorem flds_len (k : Nat) : (fldsOf k).length ≤ 3 := by
  unfold fldsOf
  repeat' split
  all_goals simp
theorem InAt.keep {w w1 : World} {b : Nat} {x : Ins} (h : InAt w b x) (hb : Below (b + 1) w w1) : InAt w1 b x :=
  ⟨Nat.lt_of_lt_of_le h.lt hb.size, (hb.cell (p := ⟨b, 0, none⟩) (Nat.lt_succ_self _)).trans h.c0, (hb.cell (p := ⟨b, 1, none⟩) (Nat.lt_succ_self _)).trans h.c1, (hb.cell (p := ⟨b, 2, none⟩) (Nat.lt_succ_self _)).trans h.c2, (hb.cell (p := ⟨b, 3, none⟩) (Nat.lt_succ_self _)).trans h.c3, (hb.cell (p := ⟨b, 4, none⟩) (Nat.lt_succ_self _)).trans h.c4, fun k => (hb.frozen (p := ⟨b, k, none⟩) (Nat.lt_succ_self _)).trans (h.fz k)⟩
theorem boxIn (w : World) (x : Ins) (ty : TypeId) : InAt (w.alloc (.cells #[.int .i64 x.op, .int .i64 x.a, .int .i64 x.b, .int .i64 x.c, .string (S x.tree)] ty)) w.heap.size x := by
  have h := CellsAt.new w [.int .i64 x.op, .int .i64 x.a, .int .i64 x.b, .int .i64 x.c, .string (S x.tree)] ty
  exact ⟨h.1, h.2 0 _ rfl, h.2 1 _ rfl, h.2 2 _ rfl, h.2 3 _ rfl, h.2 4 _ rfl, fun k => by simp only [World.frozen?, heap_alloc_new]; simp⟩

set_option maxHeartbeats 3200000 in
set_option maxRecDepth 100000 in
theorem mcode (t k : Nat) (x : Ins) (w : World) (hT : TabGood w t) (hk : k < 6) (ho : x.op = k) (hx : Fine x) (hf : ∀ f ∈ fldsOf k, f.fits x) (hvl : ∀ f ∈ fldsOf k, vld (f.cod x) = true) :
    Calls Tryz.prog 29 #[.pointer (some ⟨t, 0, none⟩), .agg #[.int .i64 k, .int .i64 x.a, .int .i64 x.b, .int .i64 x.c, .string (S x.tree)]] w fun e w' => (((nestT (treesOf x k)).length ≤ 2000000 ∧ e = .returned (.tuple #[.string (S (nestT (treesOf x k))), .int .i64 0])) ∨ (2000000 < (nestT (treesOf x k)).length ∧ e = .returned (.tuple #[.string (S []), .int .i64 3]))) ∧ Below w.heap.size w w' := by
  have HVL := Lib.hid hvl; clear hvl
  obtain ⟨cs, hcs⟩ : ∃ cs, cs = (fldsOf k).map (Fld.cod x) := ⟨_, rfl⟩
  have hcl : cs.length = (fldsOf k).length := by rw [hcs]; simp
  have HTR : Hid (treesOf x k = num k :: cs) := Lib.hid (by rw [hcs]; rfl)
  have HCS := Lib.hid hcs
  clear hcs
  obtain ⟨i0, hi, hz0, hz1, hz2⟩ := info_parts Tryz.infoStr
  obtain ⟨bs, c0, c1, hF⟩ := hT.2 k hk
  have hI := boxIn w x 46
  rw [ho] at hI
  have HI := Lib.hid hI; have HF := Lib.hid hF; have HX := Lib.hid hx; have HT := Lib.hid hT
  have htl := hT.1
  generalize hN : (fldsOf k).length = n at *
  have HN := Lib.hid hN
  have HCL := Lib.hid hcl
  clear hcl
  have HO : Hid (x.op = k) := Lib.hid ho
  have hn3 : n ≤ 3 := by rw [← hN]; exact flds_len k
  have hk0 : (0 : Int) ≤ k := by omega
  have hk1 : (k : Int) < 6 := by omega
  have hwp : Hid (w.heap.size < (w.alloc (.cells #[.int .i64 k, .int .i64 x.a, .int .i64 x.b, .int .i64 x.c, .string (S x.tree)] 46)).heap.size) := Lib.hid (by simp)
  clear hI hF hx hT hN ho
  go_enter Tryz.func29, Tryz.ntmps29
  go_wp2_with fail
  refine (codeNumber_yes k _ (by omega)).mono ?_
  rintro e w1 ⟨rfl, h1⟩
  have i1 := Lib.hid (HI.out.below h1)
  have hb1 : Below w.heap.size w w1 := ((Below.refl w.heap.size w).alloc (Nat.le_refl _) _).trans (h1.mono (by simp))
  have q0 := i1.out.c0
  have hs1 := hb1.size
  have q1 := (hb1.cell (p := ⟨t, k * 2 + 1, none⟩) htl).trans c1
  have hw1 : w.heap.size < w1.heap.size := i1.out.lt
  go_wp2_with fail
  have e0 : (w1.alloc (.cells #[.string (S (num k))] 9)).cell? ⟨w.heap.size, 0, none⟩ = some (.int .i64 k) := by
    rw [World.cell?_alloc_old _ _ _ (Nat.ne_of_lt hw1)]; rw [q0, HO.out]
  have e1 : (w1.alloc (.cells #[.string (S (num k))] 9)).cell? ⟨t, k * 2 + 1, none⟩ = some (.slice (some ⟨bs, 0, none⟩) n n) := by
    rw [World.cell?_alloc_old _ _ _ (by show t ≠ _; omega)]; exact q1
  go_quiet (fail)
  have hB1 : Below w.heap.size w ((w1.alloc (.cells #[.string (S (num k))] 9)).drewN nq) := below_drewN (hb1.alloc hs1 _) nq
  have hI1 : InAt ((w1.alloc (.cells #[.string (S (num k))] 9)).drewN nq) w.heap.size x := i1.out.below (below_drewN ((Below.refl _ _).alloc (Nat.le_refl _) _) nq)
  have hO1 : ((w1.alloc (.cells #[.string (S (num k))] 9)).drewN nq).ownsRow (w.heap.size + 1) 9 1 (.slice (some ⟨w1.heap.size, 0, none⟩) 1 1) 1 [.string (S (num k))] := own_keep (World.ownsRow_lit w1 #[.string (S (num k))] 1 hw1 (by decide) rfl) (below_drewN (Below.refl _ _) nq)
  generalize (w1.alloc (.cells #[.string (S (num k))] 9)).drewN nq = W1 at *
  clear e0 e1 q0 q1 i1 hb1 hs1 hw1 h1
  go_wp2
  go_loopw [6, 21] (fun v i wr => ∃ j : Nat, j ≤ n ∧ i = .int .i64 j ∧ wr.ownsRow (w.heap.size + 1) 9 1 v (j + 1) (strsV (num k :: cs.take j)) ∧ Below w.heap.size w wr ∧ InAt wr w.heap.size x) (fun _ i _ => n - (intOf i).toNat)
  case atStart => exact ⟨0, Nat.zero_le _, rfl, hO1, hB1, hI1⟩
  case round =>
    obtain ⟨j, hj, rfl, hown, hb, hin⟩ := hrel
    have hsz := hb.size
    by_cases hlt : j < n
    · obtain ⟨f, hfj⟩ : ∃ f, (fldsOf k)[j]? = some f := ⟨(fldsOf k)[j]'(by have := HN.out; omega), List.getElem?_eq_getElem _⟩
      obtain ⟨gt, gp, gc, gd, lb, hfit, d0, d1, d2, d3⟩ := HF.out.2 j f hfj
      have hbl := HF.out.1
      have k0 := (hb.cell (p := ⟨bs, j * 4, none⟩) hbl).trans d0
      have k1 := (hb.cell (p := ⟨bs, j * 4 + 1, none⟩) hbl).trans d1
      have k2 := (hb.cell (p := ⟨bs, j * 4 + 2, none⟩) hbl).trans d2
      have k3 := (hb.cell (p := ⟨bs, j * 4 + 3, none⟩) hbl).trans d3
      clear d0 d1 d2 d3
      obtain ⟨gt', gp', gc', gd', lb', e, hT', hP', hC', hD'⟩ := hfit
      cases e
      have eg := hC'.1
      have HFJ := Lib.hid hfj; have HFT := Lib.hid hC'.2; have HFI := Lib.hid (hf f (List.mem_of_getElem? hfj))
      clear hfj hT' hP' hC' hD'
      have hj1 : (j : Int) < (n : Int) := by omega
      go_wp2_with fail
      have hin1 : InAt (wr.alloc (.cells #[.func (.func gt) #[] lb, .func (.func gp) #[] lb, .func (.func gc) #[] lb, .func (.func gd) #[] lb] 71)) w.heap.size x := hin.below ((Below.refl _ _).alloc (Nat.le_refl _) _)
      refine (HFT.out _ w.heap.size x (hb.alloc hsz _) hin1 HX.out HFI.out).mono ?_
      rintro e w2 ⟨rfl, h2⟩
      have hB2 : Below wr.heap.size wr w2 := ((Below.refl _ _).alloc (Nat.le_refl _) _).trans (h2.mono (by simp))
      have hin2 := Lib.hid (hin.below hB2)
      have hown2 := own_keep hown hB2
      have hsz2 := hB2.size
      have hb2 := hb.trans (hB2.mono hsz)
      clear h2 hB2 hin1 hown
      go_wp2_with (at_builtin; refine wpList_append_own _ rfl _ _ 40 rfl (w.heap.size + 1) 9 i0 (.string ⟨#[]⟩) 1 16 Tryz.underlying40 hi hz0 hz1 hz2 rfl (by decide) _ _ _ rfl (hown2.alloc _) ⟨w2.heap.size, 0, none⟩ 1 1 [.string (S (f.cod x))] rfl rfl ?c1 ?c2 ?c3 ?c4 ?c5 ?_)
      case c1 =>
        intro t u ht
        match t, ht with
        | 0, ht => simp at ht; subst ht; simp [Addr.add]
      case c2 => intro u hu; simp at hu; subst hu; rfl
      case c3 => unfold maxLen; omega
      case c4 => omega
      case c5 => have := hin2.out.lt; simp; omega
      intro v' w3 hown' hgrow _
      have hb3 := app_below (Below.refl (w.heap.size + 1) w2) (by have := hin2.out.lt; omega) hown2 hgrow
      have hin3 := Lib.hid (hin2.out.keep hb3)
      have hb4 := hb2.trans (hb3.mono (by omega))
      have ho : w3.ownsRow (w.heap.size + 1) 9 1 v' (j + 1 + 1) (strsV (num k :: cs.take (j + 1))) := by
        have hjl : j < cs.length := by have := HCL.out; omega
        have hje : cs[j] = f.cod x := by
          have h1 : cs[j]? = some (f.cod x) := by rw [HCS.out, List.getElem?_map, HFJ.out]; rfl
          exact (List.getElem?_eq_some_iff.1 h1).2
        rw [List.take_succ_eq_append_getElem hjl, hje, ← List.cons_append, strsV_snoc]; exact hown'
      have HO3 := Lib.hid ho
      clear ho hown' hgrow hown2 hb2 hb3 hb
      go_wp2
      go_roundw
      case rel => exact ⟨j + 1, by omega, by go_num, HO3.out, hb4, hin3.out⟩
      case measure => simp [intOf]; omega
    · obtain rfl : j = n := by omega
      have ht : cs.take j = cs := List.take_of_length_le (by have := HCL.out; omega)
      rw [ht] at hown
      obtain ⟨g, cap, rfl, hcap, hg0, hg⟩ := own_cap hown (by omega)
      obtain ⟨xs, z, hxz⟩ : ∃ xs z, num k :: cs = xs ++ [z] := ⟨(num k :: cs).dropLast, (num k :: cs).getLast (by simp), (List.dropLast_concat_getLast (by simp)).symm⟩
      have hxl : xs.length = j := by
        have h1 := congrArg List.length hxz
        have := HCL.out
        simp at h1; omega
      have hall : ∀ y ∈ xs ++ [z], vld y = true := by
        rw [← hxz]
        intro y hy
        rcases List.mem_cons.1 hy with rfl | hy
        · exact num_vld (by omega)
        · rw [HCS.out] at hy
          obtain ⟨f, hf1, rfl⟩ := List.mem_map.1 hy
          exact HVL.out f hf1
      rw [hxz] at hown
      have hcell : ∀ i, i < j + 1 → wr.cell? ⟨g, i, none⟩ = (strsV (xs ++ [z]))[i]? := fun i hi => hown.cellAt i (by omega)
      have HQ := Lib.hid (nest_any g cap xs z (by omega) (fun y hy => hall y (by simp [hy])) (hall z (by simp)) wr hg (by omega)
        (fun i hi => by rw [hcell i (by omega)]; simp only [strsV, List.map_append, List.getElem?_append_left (show i < (xs.map fun l => Value.string (S l)).length by simpa using hi), List.getElem?_map, List.getElem?_eq_getElem hi]; rfl)
        (by rw [hcell _ (by omega)]; simp [strsV]))
      have HXL := Lib.hid hxl; have HXZ := Lib.hid hxz
      clear hown hcell hall hxl hxz ht
      have HQ2 : Hid (Calls Tryz.prog 61 #[.slice (some ⟨g, 0, none⟩) (j + 1) cap] wr fun e W' => (((nestT (treesOf x k)).length ≤ 2000000 ∧ e = .returned (.tuple #[.string (S (nestT (treesOf x k))), .int .i64 0])) ∨ (2000000 < (nestT (treesOf x k)).length ∧ e = .returned (.tuple #[.string (S []), .int .i64 3]))) ∧ Below wr.heap.size wr W') := Lib.hid (by
        have h := HQ.out
        rw [HXL.out, ← nestT_snoc, ← HXZ.out, ← HTR.out] at h
        exact h)
      clear HQ HXL HXZ HTR HCS HVL
      go_wp2_with fail
      refine HQ2.out.mono ?_
      rintro e w5 ⟨⟨hz, rfl⟩ | ⟨hz, rfl⟩, h5⟩
      · have HZ := Lib.hid hz; clear hz
        have hb5 := hb.trans (h5.mono hsz)
        go_wp2
        go_ret2
        exact ⟨.inl ⟨HZ.out, rfl⟩, hb5⟩
      · have HZ := Lib.hid hz; clear hz
        have hb5 := hb.trans (h5.mono hsz)
        go_wp2
        go_ret2
        exact ⟨.inr ⟨HZ.out, rfl⟩, hb5⟩
end Go.Proofs.YtlfoigkpfooopaaGreatDoor

namespace Go.Proofs.YtlfoigkpfooopaaGreatDoor
open Go.RowKit Pl

/-- the words of an instruction's string -/
def wordsOf (x : Ins) (k : Nat) : List (List UInt8) := nms.getD k [] :: (fldsOf k).map (Fld.txt x)
def textM (x : Ins) (k : Nat) : List UInt8 := Lib.join (wordsOf x k) [32]

set_option maxHeartbeats 3200000 in
set_option maxRecDepth 100000 in
theorem mtext (t k : Nat) (x : Ins) (w : World) (hT : TabGood w t) (hk : k < 6) (ho : x.op = k) (hx : Fine x) (hf : ∀ f ∈ fldsOf k, f.fits x) (hlen : (textM x k).length ≤ 140737488355328) (hE : Env w) :
    Calls Tryz.prog 31 #[.pointer (some ⟨t, 0, none⟩), .agg #[.int .i64 k, .int .i64 x.a, .int .i64 x.b, .int .i64 x.c, .string (S x.tree)]] w fun e w' => e = .returned (.string (S (textM x k))) ∧ Below w.heap.size w w' := by
  obtain ⟨cs, hcs⟩ : ∃ cs, cs = (fldsOf k).map (Fld.txt x) := ⟨_, rfl⟩
  have hcl : cs.length = (fldsOf k).length := by rw [hcs]; simp
  have HTR : Hid (textM x k = Lib.join (nms.getD k [] :: cs) [32]) := Lib.hid (by rw [hcs]; rfl)
  have HLN := Lib.hid hlen; have HE := Lib.hid hE
  have HCS := Lib.hid hcs
  clear hcs hlen hE
  obtain ⟨i0, hi, hz0, hz1, hz2⟩ := info_parts Tryz.infoStr
  obtain ⟨bs, c0, c1, hF⟩ := hT.2 k hk
  obtain ⟨nk, hnk⟩ : ∃ nk, nk = nms.getD k [] := ⟨_, rfl⟩
  rw [← hnk] at c0
  have HNK := Lib.hid hnk; clear hnk
  have hI := boxIn w x 46
  rw [ho] at hI
  have HI := Lib.hid hI; have HF := Lib.hid hF; have HX := Lib.hid hx; have HT := Lib.hid hT
  have htl := hT.1
  generalize hN : (fldsOf k).length = n at *
  have HN := Lib.hid hN
  have HCL := Lib.hid hcl
  clear hcl
  have HO : Hid (x.op = k) := Lib.hid ho
  have hn3 : n ≤ 3 := by rw [← hN]; exact flds_len k
  have hk0 : (0 : Int) ≤ k := by omega
  have hk1 : (k : Int) < 6 := by omega
  have hwp : Hid (w.heap.size < (w.alloc (.cells #[.int .i64 k, .int .i64 x.a, .int .i64 x.b, .int .i64 x.c, .string (S x.tree)] 46)).heap.size) := Lib.hid (by simp)
  clear hI hF hx hT hN ho
  have q1 : (w.alloc (.cells #[.int .i64 k, .int .i64 x.a, .int .i64 x.b, .int .i64 x.c, .string (S x.tree)] 46)).cell? ⟨t, k * 2, none⟩ = some (.string (S nk)) := by
    rw [World.cell?_alloc_old _ _ _ (by show t ≠ _; omega)]; exact c0
  have q2 : (w.alloc (.cells #[.int .i64 k, .int .i64 x.a, .int .i64 x.b, .int .i64 x.c, .string (S x.tree)] 46)).cell? ⟨t, k * 2 + 1, none⟩ = some (.slice (some ⟨bs, 0, none⟩) n n) := by
    rw [World.cell?_alloc_old _ _ _ (by show t ≠ _; omega)]; exact c1
  have hB0 : Below w.heap.size w (w.alloc (.cells #[.int .i64 k, .int .i64 x.a, .int .i64 x.b, .int .i64 x.c, .string (S x.tree)] 46)) := (Below.refl _ _).alloc (Nat.le_refl _) _
  have Q1 := Lib.hid q1; have Q2 := Lib.hid q2
  clear q1 q2 c0 c1 hwp
  go_enter Tryz.func31, Tryz.ntmps31
  go_wp2_with fail
  generalize w.alloc (.cells #[.int .i64 k, .int .i64 x.a, .int .i64 x.b, .int .i64 x.c, .string (S x.tree)] 46) = W0 at *
  have q0 := HI.out.c0
  have q1 := Q1.out
  rw [HO.out] at q0
  have htw : t < W0.heap.size := Nat.lt_of_lt_of_le htl hB0.size
  have hsz0 := hB0.size
  go_region
  have hB1 : Below w.heap.size w (W0.alloc (.cells #[.string (S nk)] 9)).drew := (hB0.alloc hsz0 _).drew
  have hx1 : Below W0.heap.size W0 (W0.alloc (.cells #[.string (S nk)] 9)).drew := ((Below.refl _ _).alloc (Nat.le_refl _) _).drew
  have hI1 : InAt (W0.alloc (.cells #[.string (S nk)] 9)).drew w.heap.size x := HI.out.below hx1
  have hO1 : (W0.alloc (.cells #[.string (S nk)] 9)).drew.ownsRow (w.heap.size + 1) 9 1 (.slice (some ⟨W0.heap.size, 0, none⟩) 1 1) 1 [.string (S nk)] := (World.ownsRow_lit W0 #[.string (S nk)] 1 (by have := HI.out.lt; omega) (by decide) rfl).drew
  have r1 := (hx1.cell (p := ⟨t, k * 2 + 1, none⟩) htw).trans Q2.out
  have r0 := hI1.c0
  rw [HO.out] at r0
  generalize (W0.alloc (.cells #[.string (S nk)] 9)).drew = W1 at *
  clear q0 q1
  go_wp2_with fail
  go_quiet (fail)
  have hB2 : Below w.heap.size w (W1.drewN nq) := below_drewN hB1 nq
  have hI2 : InAt (W1.drewN nq) w.heap.size x := hI1.below (below_drewN (Below.refl _ _) nq)
  have hO2 := own_keep hO1 (below_drewN (Below.refl W1.heap.size W1) nq)
  generalize W1.drewN nq = W2 at *
  clear hB1 hI1 hO1 r0 r1
  go_wp2
  go_loopw [5, 24] (fun v i wr => ∃ j : Nat, j ≤ n ∧ i = .int .i64 j ∧ wr.ownsRow (w.heap.size + 1) 9 1 v (j + 1) (strsV (nk :: cs.take j)) ∧ Below w.heap.size w wr ∧ InAt wr w.heap.size x) (fun _ i _ => n - (intOf i).toNat)
  case atStart => exact ⟨0, Nat.zero_le _, rfl, hO2, hB2, hI2⟩
  case round =>
    obtain ⟨j, hj, rfl, hown, hb, hin⟩ := hrel
    have hsz := hb.size
    by_cases hlt : j < n
    · obtain ⟨f, hfj⟩ : ∃ f, (fldsOf k)[j]? = some f := ⟨(fldsOf k)[j]'(by have := HN.out; omega), List.getElem?_eq_getElem _⟩
      obtain ⟨gt, gp, gc, gd, lb, hfit, d0, d1, d2, d3⟩ := HF.out.2 j f hfj
      have hbl := HF.out.1
      have k0 := (hb.cell (p := ⟨bs, j * 4, none⟩) hbl).trans d0
      have k1 := (hb.cell (p := ⟨bs, j * 4 + 1, none⟩) hbl).trans d1
      have k2 := (hb.cell (p := ⟨bs, j * 4 + 2, none⟩) hbl).trans d2
      have k3 := (hb.cell (p := ⟨bs, j * 4 + 3, none⟩) hbl).trans d3
      clear d0 d1 d2 d3
      obtain ⟨gt', gp', gc', gd', lb', e, hT', hP', hC', hD'⟩ := hfit
      cases e
      have eg := hT'.1
      have HFJ := Lib.hid hfj; have HFT := Lib.hid hT'.2; have HFI := Lib.hid (hf f (List.mem_of_getElem? hfj))
      clear hfj hT' hP' hC' hD'
      have hj1 : (j : Int) < (n : Int) := by omega
      have hE1 := Lib.hid ((HE.out.below hb).below ((Below.refl wr.heap.size wr).alloc (Nat.le_refl _) (.cells #[.func (.func gt) #[] lb, .func (.func gp) #[] lb, .func (.func gc) #[] lb, .func (.func gd) #[] lb] 71)))
      go_wp2_with fail
      have hin1 : InAt (wr.alloc (.cells #[.func (.func gt) #[] lb, .func (.func gp) #[] lb, .func (.func gc) #[] lb, .func (.func gd) #[] lb] 71)) w.heap.size x := hin.below ((Below.refl _ _).alloc (Nat.le_refl _) _)
      refine (HFT.out _ w.heap.size x (hb.alloc hsz _) hin1 HX.out HFI.out hE1.out).mono ?_
      rintro e w2 ⟨rfl, h2⟩
      have hB2 : Below wr.heap.size wr w2 := ((Below.refl _ _).alloc (Nat.le_refl _) _).trans (h2.mono (by simp))
      have hin2 := Lib.hid (hin.below hB2)
      have hown2 := own_keep hown hB2
      have hsz2 := hB2.size
      have hb2 := hb.trans (hB2.mono hsz)
      clear h2 hB2 hin1 hown
      go_wp2_with (at_builtin; refine wpList_append_own _ rfl _ _ 40 rfl (w.heap.size + 1) 9 i0 (.string ⟨#[]⟩) 1 16 Tryz.underlying40 hi hz0 hz1 hz2 rfl (by decide) _ _ _ rfl (hown2.alloc _) ⟨w2.heap.size, 0, none⟩ 1 1 [.string (S (f.txt x))] rfl rfl ?c1 ?c2 ?c3 ?c4 ?c5 ?_)
      case c1 =>
        intro t u ht
        match t, ht with
        | 0, ht => simp at ht; subst ht; simp [Addr.add]
      case c2 => intro u hu; simp at hu; subst hu; rfl
      case c3 => unfold maxLen; omega
      case c4 => omega
      case c5 => have := hin2.out.lt; simp; omega
      intro v' w3 hown' hgrow _
      have hb3 := app_below (Below.refl (w.heap.size + 1) w2) (by have := hin2.out.lt; omega) hown2 hgrow
      have hin3 := Lib.hid (hin2.out.keep hb3)
      have hb4 := hb2.trans (hb3.mono (by omega))
      have ho : w3.ownsRow (w.heap.size + 1) 9 1 v' (j + 1 + 1) (strsV (nk :: cs.take (j + 1))) := by
        have hjl : j < cs.length := by have := HCL.out; omega
        have hje : cs[j] = f.txt x := by
          have h1 : cs[j]? = some (f.txt x) := by rw [HCS.out, List.getElem?_map, HFJ.out]; rfl
          exact (List.getElem?_eq_some_iff.1 h1).2
        rw [List.take_succ_eq_append_getElem hjl, hje, ← List.cons_append, strsV_snoc]; exact hown'
      have HO3 := Lib.hid ho
      clear ho hown' hgrow hown2 hb2 hb3 hb
      go_wp2
      go_roundw
      case rel => exact ⟨j + 1, by omega, by go_num, HO3.out, hb4, hin3.out⟩
      case measure => simp [intOf]; omega
    · obtain rfl : j = n := by omega
      have ht : cs.take j = cs := List.take_of_length_le (by have := HCL.out; omega)
      rw [ht] at hown
      obtain ⟨g, cap, rfl, hcap, hg0, hg⟩ := own_cap hown (by omega)
      have hcell : ∀ i, i < j + 1 → wr.cell? ⟨g, i, none⟩ = (strsV (nk :: cs))[i]? := fun i hi => hown.cellAt i (by omega)
      have hxl : ((nk :: cs).map S).length = j + 1 := by have := HCL.out; simp; omega
      have hmap : ((nk :: cs).map S).map (·.data.toList) = nk :: cs := by
        rw [List.map_map]; conv => rhs; rw [← List.map_id (nk :: cs)]
        rfl
      have HQ : Hid (Calls Tryz.prog 32 #[.slice (some ⟨g, 0, none⟩) (j + 1) cap, .string ⟨#[32]⟩] wr fun e w' => e = .returned (.string (S (textM x k))) ∧ Below wr.heap.size wr w') := Lib.hid (by
        have h := Tryz.strings_Join g 0 cap ((nk :: cs).map S) ⟨#[32]⟩ wr (fun i y hy => by
          have hi : i < j + 1 := by rw [← hxl]; exact (List.getElem?_eq_some_iff.1 hy).1
          rw [Nat.zero_add, hcell i hi]
          simp only [strsV, List.getElem?_map] at hy ⊢
          cases hq : (nk :: cs)[i]? with
          | none => rw [hq] at hy; cases hy
          | some l => rw [hq] at hy; simp only [Option.map_some, Option.some.injEq] at hy ⊢; rw [hy]) hg (by omega) (by omega) (by rw [hmap, HNK.out, ← HTR.out]; exact HLN.out)
        rw [hxl, hmap, HNK.out, ← HTR.out] at h
        exact h)
      clear hown hcell hxl hmap ht
      go_wp2_with fail
      refine HQ.out.mono ?_
      rintro e w5 ⟨rfl, h5⟩
      have hb5 := hb.trans (h5.mono hsz)
      go_wp2
      go_ret
      exact ⟨rfl, hb5⟩
end Go.Proofs.YtlfoigkpfooopaaGreatDoor
