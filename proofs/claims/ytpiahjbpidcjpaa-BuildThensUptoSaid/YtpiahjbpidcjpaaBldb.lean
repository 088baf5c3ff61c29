/- What the operations of a drawn region leave behind, of programs. By an AI agent. -/
import Derived.Test.YtpiahjbpidcjpaaRegionInv
import Derived.Test.YtpiahjbpidcjpaaBlda
namespace Go.Proofs.Ytpiahjbpidcjpaa
open Go.RowKit Pl

theorem rdep {md : Region.Mode} {ops : Array Oper} {listed : Array Bool} {i : Nat} {o : Oper} (hi : i ∈ Region.ready md ops listed) (ho : ops[i]? = some o) (e : Edge) (he : e ∈ o.after) (hb : Region.binds md e = true) : listed.getD e.on false = true := by
  obtain ⟨_, o', ho', h⟩ := mem_ready.1 hi
  rw [ho] at ho'
  obtain rfl := Option.some.inj ho'
  exact h e he hb
open Classical in
noncomputable def errOf (cs : List Ins) : Int := if PValid cs then 0 else 3
def ResP (w : World) (v : Value) (cs : List Ins) : Prop := (PValid cs → ArgP w v cs) ∧ (¬ PValid cs → v = .slice none 0 0)
inductive RK
  | val (y : Value)
  | prog (ps : List Ins)
  | pcs (pss : List (List Ins))
  | tup (cs : List Ins)
  | res (cs : List Ins)
def RK.ok (w : World) (x : Value) : RK → Prop
  | .val y => x = y
  | .prog ps => ∃ a c, x = .slice a ps.length c ∧ ArgP w (.slice a ps.length c) ps
  | .pcs pss => ∃ b, x = .slice (some ⟨b, 0, none⟩) pss.length pss.length ∧ PiecesAt w b 0 pss
  | .tup cs => ∃ v, x = .tuple #[v, .int .i64 (errOf cs)] ∧ ResP w v cs
  | .res cs => ResP w x cs
theorem ResP.below {w w1 : World} {v : Value} {cs : List Ins} (h : ResP w v cs) (hb : Below w.heap.size w w1) : ResP w1 v cs := ⟨fun hp => (h.1 hp).below hb, h.2⟩
theorem RK.ok.below {w w1 : World} {x : Value} {k : RK} (h : k.ok w x) (hb : Below w.heap.size w w1) : k.ok w1 x := by
  cases k with
  | val y => exact h
  | prog ps => obtain ⟨a, c, h1, h2⟩ := h; exact ⟨a, c, h1, h2.below hb⟩
  | pcs pss => obtain ⟨b, h1, h2⟩ := h; exact ⟨b, h1, h2.below hb⟩
  | tup cs => obtain ⟨v, h1, h2⟩ := h; exact ⟨v, h1, h2.below hb⟩
  | res cs => exact ResP.below h hb
theorem RK.step {K : Nat → RK} {sl : Nat → Nat} (hinj : ∀ i j, i ≠ j → sl i ≠ sl j) {w w1 : World} {listed : Array Bool} {i s : Nat} {v : Nat → Value} {x : Value} (hs : sl i = s) (hb : Below w.heap.size w w1)
    (hG : ∀ j, listed.getD j false = true → (K j).ok w (v (sl j))) (hx : (K i).ok w1 x) :
    ∀ j, (listed.setIfInBounds i true).getD j false = true → (K j).ok w1 ((fun k => if k = s then x else v k) (sl j)) := by
  intro j hj
  by_cases h : j = i
  · subst h; simp only [hs, if_true]; exact hx
  · have h1 := hinj j i h
    rw [hs] at h1
    simp only [if_neg h1]
    exact (hG j (by rwa [getD_set_ne false (Ne.symm h)] at hj)).below hb
theorem JoinPost.res {w w' : World} {cs : List Ins} {e : Ending} (h : JoinPost w cs e w') : Below w.heap.size w w' ∧ ∃ v, e = .returned (.tuple #[v, .int .i64 (errOf cs)]) ∧ ResP w' v cs := by
  refine ⟨h.1, ?_⟩
  unfold errOf
  rcases h.2 with ⟨h1, v, rfl, h2⟩ | ⟨h1, rfl⟩
  · rw [if_pos h1]; exact ⟨v, rfl, fun _ => h2, fun h => absurd h1 h⟩
  · rw [if_neg h1]; exact ⟨_, rfl, fun h => absurd h h1, fun _ => rfl⟩
theorem fits_res {cs : List Ins} (hr : AllR cs) {w w' : World} {v : Value} {l : List (List Ins)} (hv : ∀ p ∈ l, PValid p) (h2 : ∀ p ∈ l, rn p ≤ 28) (hb : Below w.heap.size w w') (h : ResP w' v cs) :
    BPost w (dueP l cs) cs (.returned (.tuple #[v, .int .i64 (errOf cs)])) w' := by
  refine fits_is hr hv h2 ⟨hb, ?_⟩
  unfold errOf
  by_cases h1 : PValid cs
  · rw [if_pos h1]; exact .inl ⟨h1, v, rfl, h.1 h1⟩
  · rw [if_neg h1, h.2 h1]; exact .inr ⟨h1, rfl⟩
/-- an operation that has been listed has been carried out -/
theorem start_none {n j : Nat} (h : (Array.replicate n false).getD j false = true) : False := by
  rw [Array.getD_eq_getD_getElem?, Array.getElem?_replicate] at h
  split at h <;> simp at h
theorem one_prog (w : World) (x : Ins) : RK.ok (w.alloc (.cells (progV [x]).toArray 57)) (.slice (some ⟨w.heap.size, 0, none⟩) 1 1) (.prog [x]) := ⟨_, _, rfl, lit_prog w [x] (by simp)⟩
end Go.Proofs.Ytpiahjbpidcjpaa

namespace Go.Proofs.Ytpiahjbpidcjpaa
open Go.RowKit Pl

theorem pairL_is (p q : List Ins) {n : Nat} (hn : max (rn p) (rn q) = n) :
    ([[moveI n 0], p, [moveI ((n : Int) + 1) 0], moveI 0 n :: cleanL (rn q), q, [consI 0 ((n : Int) + 1) 0]] : List (List Ins)).flatten = pairL p q := by
  unfold pairL behind
  rw [hn]
  simp
theorem pairL_len (p q : List Ins) : (pairL p q).length = p.length + (behind q).length + 4 := by
  unfold pairL
  simp only [List.length_append, List.length_cons, List.length_nil]; omega
noncomputable def pairK (n : Nat) (g : Nat) (p q : List Ins) (vp vq : Value) : Nat → RK
  | 0 => .val (.int .i64 (n : Int))
  | 1 => .val (.agg #[.int .i64 1, .int .i64 (n : Int), .int .i64 0, .int .i64 0, .string ⟨#[]⟩])
  | 2 => .prog [moveI (n : Int) 0]
  | 3 => .val vp
  | 4 => .val (.int .i64 (n : Int))
  | 5 => .val (.int .i64 ((n : Int) + 1))
  | 6 => .val (.agg #[.int .i64 1, .int .i64 ((n : Int) + 1), .int .i64 0, .int .i64 0, .string ⟨#[]⟩])
  | 7 => .prog [moveI ((n : Int) + 1) 0]
  | 8 => .val (.int .i64 (n : Int))
  | 9 => .val (.slice (some ⟨g, 0, none⟩) 2 2)
  | 10 => .val (.pointer (some ⟨g, 1, none⟩))
  | 11 => .val (.int .i64 (rn q : Int))
  | 12 => .prog (moveI 0 (n : Int) :: cleanL (rn q))
  | 13 => .val vq
  | 14 => .val (.int .i64 (n : Int))
  | 15 => .val (.int .i64 ((n : Int) + 1))
  | 16 => .val (.agg #[.int .i64 2, .int .i64 0, .int .i64 ((n : Int) + 1), .int .i64 0, .string ⟨#[]⟩])
  | 17 => .prog [consI 0 ((n : Int) + 1) 0]
  | 18 => .pcs [[moveI (n : Int) 0], p, [moveI ((n : Int) + 1) 0], moveI 0 (n : Int) :: cleanL (rn q), q, [consI 0 ((n : Int) + 1) 0]]
  | 19 => .tup (pairL p q)
  | 20 => .res (pairL p q)
  | 21 => .val (.int .i64 (errOf (pairL p q)))
  | 22 => .res (pairL p q)
  | _ => .val (.int .i64 (errOf (pairL p q)))
def pairS (j : Nat) : Nat := if j = 22 then 4 else if j = 23 then 5 else j + 21
theorem pairS_ne (i j : Nat) (h : i ≠ j) : pairS i ≠ pairS j := by unfold pairS; (repeat' split) <;> omega
set_option maxHeartbeats 6400000 in
set_option maxRecDepth 100000 in
theorem Pair_any (w : World) (vp vq : Value) (p q : List Ins) (hp : ArgP w vp p) (hq : ArgP w vq q) (sp : SizeP p) (sq : SizeP q) :
    Calls Try.prog 35 #[vp, vq] w (BPost w (dueP [p, q] (pairL p q)) (pairL p q)) := by
  have HR := Lib.hid (bregs_any _ w.heap.size 0 2 [p, q] (lit_pieces w [vp, vq] [p, q] ⟨hp, hq, trivial⟩) (by simp) (by
    intro x hx
    simp only [List.mem_cons, List.not_mem_nil, or_false] at hx
    rcases hx with rfl | rfl
    · exact sp
    · exact sq))
  have HP := Lib.hid (fun W (h : Below w.heap.size w W) => hp.below h)
  have HQ := Lib.hid (fun W (h : Below w.heap.size w W) => hq.below h)
  obtain ⟨ap, cp, rfl⟩ := hp.form
  obtain ⟨aq, cq, rfl⟩ := hq.form
  have hb0 := Lib.hid (alloc_below w (.cells #[.slice ap p.length cp, .slice aq q.length cq] 23))
  clear hp hq sp sq
  go_enter Try.func35, Try.ntmps35
  go_wp2_with fail
  refine HR.out.mono ?_
  rintro e w1 ⟨h1, hR⟩
  have hb1 := Lib.hid (bstep hb0.out h1)
  clear HR h1
  rcases hR with ⟨rfl, hx⟩ | ⟨hv, ⟨rfl, hx⟩ | ⟨h28, g, rfl, hN⟩⟩
  · have HX := Lib.hid (due_form (cs := pairL p q) hx)
    clear hx
    go_wp2_with fail
    go_ret2
    rw [HX.out]
    exact ⟨hb1.out, .inr ⟨by omega, rfl⟩⟩
  · have HX := Lib.hid (due_regs (cs := pairL p q) hv hx)
    clear hx hv
    go_wp2_with fail
    go_ret2
    rw [HX.out]
    exact ⟨hb1.out, .inr ⟨by omega, rfl⟩⟩
  · have p28 := h28 p (by simp); have q28 := h28 q (by simp)
    have pv := hv p (by simp); have qv := hv q (by simp)
    have HF := Lib.hid (fun w' v h => fits_res (w := w) (w' := w') (v := v) (allR_pair pv qv p28 q28) hv h28 h)
    have HTR := Lib.hid (allR_tree (allR_pair pv qv p28 q28))
    have HM := Lib.hid (fun W (h : NumsAt W g 0 [rn p, rn q]) => Max_any W g 0 2 [rn p, rn q] h (by simp) (by simp) (by simp; omega))
    rw [max2] at HM
    have HIF := Lib.hid (fun (n : Nat) => pairL_is (n := n) p q)
    have hl2 := pv.1; have hl3 := qv.1
    have HLEN := Lib.hid (pairL_len p q)
    have HBQ := Lib.hid (behind_len q)
    generalize hn : max (rn p) (rn q) = n at *
    have hn28 : n ≤ 28 := by omega
    have hni : (n : Int) ≤ 28 := by omega
    have hw1 : IntKind.i64.wrap ((n : Int) + 1) = (n : Int) + 1 := by rw [IntKind.wrap_i64]; omega
    have HNA := Lib.hid (show NumsAt w1 g 0 [rn p, rn q] from hN)
    have HA2 := Lib.hid (fun W => again_any (n : Int) (rn q) (by omega) W)
    clear hv h28 hN hn pv qv
    go_wp2_with fail
    refine (HM.out _ HNA.out).mono ?_
    rintro e w2 ⟨rfl, h2⟩
    have hb2 := Lib.hid (bstep hb1.out h2)
    have HNA2 := Lib.hid (HNA.out.below h2)
    have c1 : w2.cell? ⟨g, 1, none⟩ = some (.int .i64 (rn q : Int)) := HNA2.out.2 1 (rn q) rfl
    have C1 := Lib.hid c1
    clear h2
    go_wp2_with fail
    generalize hW0 : w2 = W0 at *
    refine wp_region_inv (P := Try.prog) (fun listed a' w' => ∃ v : Nat → Value, a' = { tmps := #[.slice ap p.length cp, .slice aq q.length cq, undef, undef, v 4, v 5, .slice (some ⟨g, 0, none⟩) 2 2, .int .i64 0, .int .i64 (n : Int), .tuple #[.slice (some ⟨g, 0, none⟩) 2 2, .int .i64 0], .slice ap p.length cp, .slice aq q.length cq, .slice (some ⟨w.heap.size, 0, none⟩) 2 2, .tuple #[.slice (some ⟨g, 0, none⟩) 2 2, .int .i64 0], .slice (some ⟨g, 0, none⟩) 2 2, .int .i64 0, .int .i64 0, .bool false, undef, .slice (some ⟨g, 0, none⟩) 2 2, .int .i64 (n : Int), v 21, v 22, v 23, v 24, v 25, v 26, v 27, v 28, v 29, v 30, v 31, v 32, v 33, v 34, v 35, v 36, v 37, v 38, v 39, v 40, v 41, v 42], defers := [] } ∧ Below W0.heap.size W0 w' ∧
      ∀ j, listed.getD j false = true → (pairK n g p q (.slice ap p.length cp) (.slice aq q.length cq) j).ok w' (v (pairS j))) (by kernel_rfl) ?start ?step ?done
    case start =>
      refine ⟨fun k => if k = 4 then .slice none 0 0 else if k = 5 then .int .i64 0 else undef, rfl, (Below.refl _ _).drew, fun j hj => (start_none hj).elim⟩
    case done =>
      rintro listed a' w' hs hr ⟨v, rfl, hb, hG⟩
      have h22 : ResP w' (v 4) (pairL p q) := hG 22 (all_listed hs (by kernel_rfl) hr 22 (by decide))
      have h23 : v 5 = .int .i64 (errOf (pairL p q)) := hG 23 (all_listed hs (by kernel_rfl) hr 23 (by decide))
      have HB := Lib.hid (HF.out w' (v 4) (bstep hb2.out hb) h22)
      generalize v 4 = v4 at *
      rw [h23]
      clear hG hs hr h22 h23
      go_wp2_with fail
      go_ret2
      exact HB.out
    case step =>
      rintro listed a' w' i hs ⟨v, rfl, hb, hG⟩ hi
      have cell1 : w'.cell? ⟨g, 1, none⟩ = some (.int .i64 (rn q : Int)) := (HNA2.out.below hb).2 1 (rn q) rfl
      have hlt : i = 0 ∨ i = 1 ∨ i = 2 ∨ i = 3 ∨ i = 4 ∨ i = 5 ∨ i = 6 ∨ i = 7 ∨ i = 8 ∨ i = 9 ∨ i = 10 ∨ i = 11 ∨ i = 12 ∨ i = 13 ∨ i = 14 ∨ i = 15 ∨ i = 16 ∨ i = 17 ∨ i = 18 ∨ i = 19 ∨ i = 20 ∨ i = 21 ∨ i = 22 ∨ i = 23 := by
        obtain ⟨_, o, ho, _⟩ := mem_ready.1 hi
        have := (Array.getElem?_eq_some_iff.1 ho).1
        simp at this; omega
      rcases hlt with rfl | rfl | rfl | rfl | rfl | rfl | rfl | rfl | rfl | rfl | rfl | rfl | rfl | rfl | rfl | rfl | rfl | rfl | rfl | rfl | rfl | rfl | rfl | rfl
      · refine wpOp_step rfl (fun K' hK => ?_)
        go_simp
        exact hK _ _ ⟨fun k => if k = 21 then ((.int .i64 (n : Int))) else v k, rfl, hb, RK.step (K := pairK n g p q (.slice ap p.length cp) (.slice aq q.length cq)) pairS_ne (i := 0) (s := 21) rfl (Below.refl _ _) hG rfl⟩
      · have d0 : v 21 = (.int .i64 (n : Int)) := hG 0 (rdep hi rfl ⟨0, .data⟩ (by simp) rfl)
        refine wpOp_step rfl (fun K' hK => ?_)
        go_simp
        refine (bmove_is _ _ _).mono ?_
        rintro e w4 ⟨rfl, h4⟩
        exact hK _ _ ⟨fun k => if k = 22 then ((.agg #[.int .i64 1, .int .i64 (n : Int), .int .i64 0, .int .i64 0, .string ⟨#[]⟩])) else v k, by simp [d0], hb.trans (h4.mono hb.size), RK.step (K := pairK n g p q (.slice ap p.length cp) (.slice aq q.length cq)) pairS_ne (i := 1) (s := 22) rfl h4 hG rfl⟩
      · have d1 : v 22 = (.agg #[.int .i64 1, .int .i64 (n : Int), .int .i64 0, .int .i64 0, .string ⟨#[]⟩]) := hG 1 (rdep hi rfl ⟨1, .data⟩ (by simp) rfl)
        refine wpOp_step rfl (fun K' hK => ?_)
        go_simp
        exact hK _ _ ⟨fun k => if k = 23 then (.slice (some ⟨w'.heap.size, 0, none⟩) 1 1) else v k, by simp [d1], hb.alloc hb.size _, RK.step (K := pairK n g p q (.slice ap p.length cp) (.slice aq q.length cq)) pairS_ne (i := 2) (s := 23) rfl (alloc_below _ _) hG (one_prog w' (moveI (n : Int) 0))⟩
      · refine wpOp_step rfl (fun K' hK => ?_)
        go_simp
        exact hK _ _ ⟨fun k => if k = 24 then (.slice ap p.length cp) else v k, rfl, hb, RK.step (K := pairK n g p q (.slice ap p.length cp) (.slice aq q.length cq)) pairS_ne (i := 3) (s := 24) rfl (Below.refl _ _) hG rfl⟩
      · refine wpOp_step rfl (fun K' hK => ?_)
        go_simp
        exact hK _ _ ⟨fun k => if k = 25 then ((.int .i64 (n : Int))) else v k, rfl, hb, RK.step (K := pairK n g p q (.slice ap p.length cp) (.slice aq q.length cq)) pairS_ne (i := 4) (s := 25) rfl (Below.refl _ _) hG rfl⟩
      · have d4 : v 25 = (.int .i64 (n : Int)) := hG 4 (rdep hi rfl ⟨4, .data⟩ (by simp) rfl)
        refine wpOp_step rfl (fun K' hK => ?_)
        go_simp
        exact hK _ _ ⟨fun k => if k = 26 then ((.int .i64 ((n : Int) + 1))) else v k, by simp [d4], hb, RK.step (K := pairK n g p q (.slice ap p.length cp) (.slice aq q.length cq)) pairS_ne (i := 5) (s := 26) rfl (Below.refl _ _) hG rfl⟩
      · have d5 : v 26 = (.int .i64 ((n : Int) + 1)) := hG 5 (rdep hi rfl ⟨5, .data⟩ (by simp) rfl)
        refine wpOp_step rfl (fun K' hK => ?_)
        go_simp
        refine (bmove_is _ _ _).mono ?_
        rintro e w4 ⟨rfl, h4⟩
        exact hK _ _ ⟨fun k => if k = 27 then ((.agg #[.int .i64 1, .int .i64 ((n : Int) + 1), .int .i64 0, .int .i64 0, .string ⟨#[]⟩])) else v k, by simp [d5], hb.trans (h4.mono hb.size), RK.step (K := pairK n g p q (.slice ap p.length cp) (.slice aq q.length cq)) pairS_ne (i := 6) (s := 27) rfl h4 hG rfl⟩
      · have d6 : v 27 = (.agg #[.int .i64 1, .int .i64 ((n : Int) + 1), .int .i64 0, .int .i64 0, .string ⟨#[]⟩]) := hG 6 (rdep hi rfl ⟨6, .data⟩ (by simp) rfl)
        refine wpOp_step rfl (fun K' hK => ?_)
        go_simp
        exact hK _ _ ⟨fun k => if k = 28 then (.slice (some ⟨w'.heap.size, 0, none⟩) 1 1) else v k, by simp [d6], hb.alloc hb.size _, RK.step (K := pairK n g p q (.slice ap p.length cp) (.slice aq q.length cq)) pairS_ne (i := 7) (s := 28) rfl (alloc_below _ _) hG (one_prog w' (moveI ((n : Int) + 1) 0))⟩
      · refine wpOp_step rfl (fun K' hK => ?_)
        go_simp
        exact hK _ _ ⟨fun k => if k = 29 then ((.int .i64 (n : Int))) else v k, rfl, hb, RK.step (K := pairK n g p q (.slice ap p.length cp) (.slice aq q.length cq)) pairS_ne (i := 8) (s := 29) rfl (Below.refl _ _) hG rfl⟩
      · refine wpOp_step rfl (fun K' hK => ?_)
        go_simp
        exact hK _ _ ⟨fun k => if k = 30 then ((.slice (some ⟨g, 0, none⟩) 2 2)) else v k, rfl, hb, RK.step (K := pairK n g p q (.slice ap p.length cp) (.slice aq q.length cq)) pairS_ne (i := 9) (s := 30) rfl (Below.refl _ _) hG rfl⟩
      · have d9 : v 30 = (.slice (some ⟨g, 0, none⟩) 2 2) := hG 9 (rdep hi rfl ⟨9, .data⟩ (by simp) rfl)
        refine wpOp_step rfl (fun K' hK => ?_)
        go_simp
        exact hK _ _ ⟨fun k => if k = 31 then ((.pointer (some ⟨g, 1, none⟩))) else v k, by simp [d9], hb, RK.step (K := pairK n g p q (.slice ap p.length cp) (.slice aq q.length cq)) pairS_ne (i := 10) (s := 31) rfl (Below.refl _ _) hG rfl⟩
      · have d10 : v 31 = (.pointer (some ⟨g, 1, none⟩)) := hG 10 (rdep hi rfl ⟨10, .data⟩ (by simp) rfl)
        refine wpOp_step rfl (fun K' hK => ?_)
        go_simp
        exact hK _ _ ⟨fun k => if k = 32 then ((.int .i64 (rn q : Int))) else v k, by simp [d10], hb, RK.step (K := pairK n g p q (.slice ap p.length cp) (.slice aq q.length cq)) pairS_ne (i := 11) (s := 32) rfl (Below.refl _ _) hG rfl⟩
      · have d8 : v 29 = (.int .i64 (n : Int)) := hG 8 (rdep hi rfl ⟨8, .data⟩ (by simp) rfl)
        have d11 : v 32 = (.int .i64 (rn q : Int)) := hG 11 (rdep hi rfl ⟨11, .data⟩ (by simp) rfl)
        refine wpOp_step rfl (fun K' hK => ?_)
        go_simp
        refine (HA2.out _).mono ?_
        rintro e w4 ⟨v10, rfl, ho10, h4⟩
        obtain ⟨a10, d10, e10⟩ := ho10.arg.form
        exact hK _ _ ⟨fun k => if k = 33 then (v10) else v k, by simp [d8, d11], hb.trans (h4.mono hb.size), RK.step (K := pairK n g p q (.slice ap p.length cp) (.slice aq q.length cq)) pairS_ne (i := 12) (s := 33) rfl h4 hG ⟨a10, d10, e10, e10 ▸ ho10.arg⟩⟩
      · refine wpOp_step rfl (fun K' hK => ?_)
        go_simp
        exact hK _ _ ⟨fun k => if k = 34 then (.slice aq q.length cq) else v k, rfl, hb, RK.step (K := pairK n g p q (.slice ap p.length cp) (.slice aq q.length cq)) pairS_ne (i := 13) (s := 34) rfl (Below.refl _ _) hG rfl⟩
      · refine wpOp_step rfl (fun K' hK => ?_)
        go_simp
        exact hK _ _ ⟨fun k => if k = 35 then ((.int .i64 (n : Int))) else v k, rfl, hb, RK.step (K := pairK n g p q (.slice ap p.length cp) (.slice aq q.length cq)) pairS_ne (i := 14) (s := 35) rfl (Below.refl _ _) hG rfl⟩
      · have d14 : v 35 = (.int .i64 (n : Int)) := hG 14 (rdep hi rfl ⟨14, .data⟩ (by simp) rfl)
        refine wpOp_step rfl (fun K' hK => ?_)
        go_simp
        exact hK _ _ ⟨fun k => if k = 36 then ((.int .i64 ((n : Int) + 1))) else v k, by simp [d14], hb, RK.step (K := pairK n g p q (.slice ap p.length cp) (.slice aq q.length cq)) pairS_ne (i := 15) (s := 36) rfl (Below.refl _ _) hG rfl⟩
      · have d15 : v 36 = (.int .i64 ((n : Int) + 1)) := hG 15 (rdep hi rfl ⟨15, .data⟩ (by simp) rfl)
        refine wpOp_step rfl (fun K' hK => ?_)
        go_simp
        refine (bcons_is _ _ _ _).mono ?_
        rintro e w4 ⟨rfl, h4⟩
        exact hK _ _ ⟨fun k => if k = 37 then ((.agg #[.int .i64 2, .int .i64 0, .int .i64 ((n : Int) + 1), .int .i64 0, .string ⟨#[]⟩])) else v k, by simp [d15], hb.trans (h4.mono hb.size), RK.step (K := pairK n g p q (.slice ap p.length cp) (.slice aq q.length cq)) pairS_ne (i := 16) (s := 37) rfl h4 hG rfl⟩
      · have d16 : v 37 = (.agg #[.int .i64 2, .int .i64 0, .int .i64 ((n : Int) + 1), .int .i64 0, .string ⟨#[]⟩]) := hG 16 (rdep hi rfl ⟨16, .data⟩ (by simp) rfl)
        refine wpOp_step rfl (fun K' hK => ?_)
        go_simp
        exact hK _ _ ⟨fun k => if k = 38 then (.slice (some ⟨w'.heap.size, 0, none⟩) 1 1) else v k, by simp [d16], hb.alloc hb.size _, RK.step (K := pairK n g p q (.slice ap p.length cp) (.slice aq q.length cq)) pairS_ne (i := 17) (s := 38) rfl (alloc_below _ _) hG (one_prog w' (consI 0 ((n : Int) + 1) 0))⟩
      · obtain ⟨x2, c2, d2, A2⟩ : ∃ a c, v 23 = .slice a ([moveI (n : Int) 0]).length c ∧ ArgP w' (.slice a ([moveI (n : Int) 0]).length c) ([moveI (n : Int) 0]) := hG 2 (rdep hi rfl ⟨2, .data⟩ (by simp) rfl)
        have d3 : v 24 = .slice ap p.length cp := hG 3 (rdep hi rfl ⟨3, .data⟩ (by simp) rfl)
        obtain ⟨x7, c7, d7, A7⟩ : ∃ a c, v 28 = .slice a ([moveI ((n : Int) + 1) 0]).length c ∧ ArgP w' (.slice a ([moveI ((n : Int) + 1) 0]).length c) ([moveI ((n : Int) + 1) 0]) := hG 7 (rdep hi rfl ⟨7, .data⟩ (by simp) rfl)
        obtain ⟨x12, c12, d12, A12⟩ : ∃ a c, v 33 = .slice a ((moveI 0 (n : Int) :: cleanL (rn q))).length c ∧ ArgP w' (.slice a ((moveI 0 (n : Int) :: cleanL (rn q))).length c) ((moveI 0 (n : Int) :: cleanL (rn q))) := hG 12 (rdep hi rfl ⟨12, .data⟩ (by simp) rfl)
        have d13 : v 34 = .slice aq q.length cq := hG 13 (rdep hi rfl ⟨13, .data⟩ (by simp) rfl)
        obtain ⟨x17, c17, d17, A17⟩ : ∃ a c, v 38 = .slice a ([consI 0 ((n : Int) + 1) 0]).length c ∧ ArgP w' (.slice a ([consI 0 ((n : Int) + 1) 0]).length c) ([consI 0 ((n : Int) + 1) 0]) := hG 17 (rdep hi rfl ⟨17, .data⟩ (by simp) rfl)
        refine wpOp_step rfl (fun K' hK => ?_)
        go_simp
        have hpc := lit_pieces w' [.slice x2 1 c2, .slice ap p.length cp, .slice x7 1 c7, .slice x12 (moveI 0 (n : Int) :: cleanL (rn q)).length c12, .slice aq q.length cq, .slice x17 1 c17] [[moveI (n : Int) 0], p, [moveI ((n : Int) + 1) 0], moveI 0 (n : Int) :: cleanL (rn q), q, [consI 0 ((n : Int) + 1) 0]] ⟨A2, HP.out _ (bstep hb2.out hb), A7, A12, HQ.out _ (bstep hb2.out hb), A17, trivial⟩
        exact hK _ _ ⟨fun k => if k = 39 then (.slice (some ⟨w'.heap.size, 0, none⟩) 6 6) else v k, by simp [d2, d3, d7, d12, d13, d17], hb.alloc hb.size _, RK.step (K := pairK n g p q (.slice ap p.length cp) (.slice aq q.length cq)) pairS_ne (i := 18) (s := 39) rfl (alloc_below _ _) hG ⟨_, rfl, hpc⟩⟩
      · obtain ⟨x18, d18, A18⟩ : ∃ b, v 39 = .slice (some ⟨b, 0, none⟩) 6 6 ∧ PiecesAt w' b 0 ([[moveI (n : Int) 0], p, [moveI ((n : Int) + 1) 0], moveI 0 (n : Int) :: cleanL (rn q), q, [consI 0 ((n : Int) + 1) 0]]) := hG 18 (rdep hi rfl ⟨18, .data⟩ (by simp) rfl)
        refine wpOp_step rfl (fun K' hK => ?_)
        go_simp
        refine (join_any _ x18 0 6 _ (pairL p q) (HIF.out n rfl) A18 (by simp) (by have := HLEN.out; have := HBQ.out; omega) HTR.out).mono ?_
        intro e w4 hJ
        obtain ⟨h4, v12, rfl, hcase⟩ := hJ.res
        exact hK _ _ ⟨fun k => if k = 40 then (.tuple #[v12, .int .i64 (errOf (pairL p q))]) else v k, by simp [d18], hb.trans (h4.mono hb.size), RK.step (K := pairK n g p q (.slice ap p.length cp) (.slice aq q.length cq)) pairS_ne (i := 19) (s := 40) rfl h4 hG ⟨_, rfl, hcase⟩⟩
      · obtain ⟨x19, d19, A19⟩ : ∃ u, v 40 = .tuple #[u, .int .i64 (errOf ((pairL p q)))] ∧ ResP w' u ((pairL p q)) := hG 19 (rdep hi rfl ⟨19, .data⟩ (by simp) rfl)
        refine wpOp_step rfl (fun K' hK => ?_)
        go_simp
        exact hK _ _ ⟨fun k => if k = 41 then (x19) else v k, by simp [d19], hb, RK.step (K := pairK n g p q (.slice ap p.length cp) (.slice aq q.length cq)) pairS_ne (i := 20) (s := 41) rfl (Below.refl _ _) hG A19⟩
      · obtain ⟨x19, d19, A19⟩ : ∃ u, v 40 = .tuple #[u, .int .i64 (errOf ((pairL p q)))] ∧ ResP w' u ((pairL p q)) := hG 19 (rdep hi rfl ⟨19, .data⟩ (by simp) rfl)
        refine wpOp_step rfl (fun K' hK => ?_)
        go_simp
        exact hK _ _ ⟨fun k => if k = 42 then ((.int .i64 (errOf (pairL p q)))) else v k, by simp [d19], hb, RK.step (K := pairK n g p q (.slice ap p.length cp) (.slice aq q.length cq)) pairS_ne (i := 21) (s := 42) rfl (Below.refl _ _) hG rfl⟩
      · have A20 : ResP w' (v 41) ((pairL p q)) := hG 20 (rdep hi rfl ⟨20, .data⟩ (by simp) rfl)
        refine wpOp_step rfl (fun K' hK => ?_)
        go_simp
        exact hK _ _ ⟨fun k => if k = 4 then (v 41) else v k, rfl, hb, RK.step (K := pairK n g p q (.slice ap p.length cp) (.slice aq q.length cq)) pairS_ne (i := 22) (s := 4) rfl (Below.refl _ _) hG A20⟩
      · have d21 : v 42 = (.int .i64 (errOf (pairL p q))) := hG 21 (rdep hi rfl ⟨21, .data⟩ (by simp) rfl)
        refine wpOp_step rfl (fun K' hK => ?_)
        go_simp
        exact hK _ _ ⟨fun k => if k = 5 then ((.int .i64 (errOf (pairL p q)))) else v k, by simp [d21], hb, RK.step (K := pairK n g p q (.slice ap p.length cp) (.slice aq q.length cq)) pairS_ne (i := 23) (s := 5) rfl (Below.refl _ _) hG rfl⟩
end Go.Proofs.Ytpiahjbpidcjpaa

namespace Go.Proofs.Ytpiahjbpidcjpaa
open Go.RowKit Pl

def bodyL (n : Int) (p : List Ins) : List Ins := moveI 0 n :: behind p ++ [setI n [49, 48, 48]]
def stopL (n k : Int) : List Ins := [moveI 0 n, setI n [49, 48, 48], jumpI n (1 + k)]
def loopL (n : Int) (c p : List Ins) (k : Int) : List Ins := (moveI n 0 :: behind c) ++ [jumpI 0 4] ++ stopL n k ++ bodyL n p
theorem bodyL_len (n : Int) (p : List Ins) : (bodyL n p).length = (behind p).length + 2 := by simp [bodyL]
theorem loopL_len (n : Int) (c p : List Ins) (k : Int) : (loopL n c p k).length = (behind c).length + (behind p).length + 7 := by
  unfold loopL stopL bodyL
  simp only [List.length_append, List.length_cons, List.length_nil]; omega
theorem whileL_is (c p : List Ins) {n : Nat} (hn : max (rn c) (rn p) = n) {y l : Nat} (hy : (bodyL n p).length = y) (hl : (loopL n c p ((y : Int) + 1)).length = l) :
    ([loopL n c p ((y : Int) + 1), [jumpI n (-(l : Int))]] : List (List Ins)).flatten = whileL c p := by
  have e1 : (1 : Int) + ((y : Int) + 1) = ((behind p).length : Int) + 4 := by rw [← hy, bodyL_len]; omega
  have e3 : loopL n c p ((y : Int) + 1) = [moveI n 0] ++ behind c ++ [jumpI 0 4, moveI 0 n, setI n [49, 48, 48], jumpI n (((behind p).length : Int) + 4), moveI 0 n] ++ behind p ++ [setI n [49, 48, 48]] := by
    unfold loopL stopL bodyL
    rw [e1]
    simp
  rw [← hl, e3]
  unfold whileL
  rw [hn]
  simp
theorem whileL_len (c p : List Ins) : (whileL c p).length = (behind c).length + (behind p).length + 8 := by
  unfold whileL
  simp only [List.length_append, List.length_cons, List.length_nil]; omega
noncomputable def whileK (n g : Nat) (c : List Ins) (vc : Value) : Nat → RK
  | 0 => .val (.int .i64 (n : Int))
  | 1 => .val (.agg #[.int .i64 1, .int .i64 (n : Int), .int .i64 0, .int .i64 0, .string ⟨#[]⟩])
  | 2 => .prog [moveI (n : Int) 0]
  | 3 => .val (.slice (some ⟨g, 0, none⟩) 2 2)
  | 4 => .val (.pointer (some ⟨g, 0, none⟩))
  | 5 => .val (.int .i64 (rn c : Int))
  | 6 => .prog (cleanL (rn c))
  | 7 => .val vc
  | 8 => .pcs [[moveI (n : Int) 0], cleanL (rn c), c]
  | 9 => .prog (moveI (n : Int) 0 :: behind c)
  | _ => .prog (moveI (n : Int) 0 :: behind c)
def whileS (j : Nat) : Nat := if j = 10 then 9 else j + 25
theorem whileS_ne (i j : Nat) (h : i ≠ j) : whileS i ≠ whileS j := by unfold whileS; (repeat' split) <;> omega
set_option maxHeartbeats 6400000 in
set_option maxRecDepth 100000 in
theorem While_any (w : World) (vc vp : Value) (c p : List Ins) (hc : ArgP w vc c) (hp : ArgP w vp p) (sc : SizeP c) (sp : SizeP p) :
    Calls Try.prog 37 #[vc, vp] w (BPost w (dueP [c, p] (whileL c p)) (whileL c p)) := by
  have HR := Lib.hid (bregs_any _ w.heap.size 0 2 [c, p] (lit_pieces w [vc, vp] [c, p] ⟨hc, hp, trivial⟩) (by simp) (by
    intro x hx
    simp only [List.mem_cons, List.not_mem_nil, or_false] at hx
    rcases hx with rfl | rfl
    · exact sc
    · exact sp))
  have HC := Lib.hid (fun W (h : Below w.heap.size w W) => hc.below h)
  have HP := Lib.hid (fun W (h : Below w.heap.size w W) => hp.below h)
  obtain ⟨ac, cc, rfl⟩ := hc.form
  obtain ⟨ap, cp, rfl⟩ := hp.form
  have hb0 := Lib.hid (alloc_below w (.cells #[.slice ac c.length cc, .slice ap p.length cp] 23))
  clear hc hp sc sp
  go_enter Try.func37, Try.ntmps37
  go_wp2_with fail
  refine HR.out.mono ?_
  rintro e w1 ⟨h1, hR⟩
  have hb1 := Lib.hid (bstep hb0.out h1)
  clear HR h1
  rcases hR with ⟨rfl, hx⟩ | ⟨hv, ⟨rfl, hx⟩ | ⟨h28, g, rfl, hN⟩⟩
  · have HX := Lib.hid (due_form (cs := whileL c p) hx)
    clear hx
    go_wp2_with fail
    go_ret2
    rw [HX.out]
    exact ⟨hb1.out, .inr ⟨by omega, rfl⟩⟩
  · have HX := Lib.hid (due_regs (cs := whileL c p) hv hx)
    clear hx hv
    go_wp2_with fail
    go_ret2
    rw [HX.out]
    exact ⟨hb1.out, .inr ⟨by omega, rfl⟩⟩
  · have c28 := h28 c (by simp); have p28 := h28 p (by simp)
    have cv := hv c (by simp); have pv := hv p (by simp)
    have HF := Lib.hid (fun w' e h => fits_is (w := w) (w' := w') (e := e) (allR_while cv pv c28 p28) hv h28 h)
    have HTR := Lib.hid (allR_tree (allR_while cv pv c28 p28))
    have HM := Lib.hid (fun W (h : NumsAt W g 0 [rn c, rn p]) => Max_any W g 0 2 [rn c, rn p] h (by simp) (by simp) (by simp; omega))
    rw [max2] at HM
    have HIF := Lib.hid (fun (n y l : Nat) => whileL_is (n := n) (y := y) (l := l) c p)
    have hl2 := cv.1; have hl3 := pv.1
    have HLEN := Lib.hid (whileL_len c p)
    have HBC := Lib.hid (behind_len c); have HBP := Lib.hid (behind_len p)
    generalize hn : max (rn c) (rn p) = n at *
    have hn28 : n ≤ 28 := by omega
    have hni : (n : Int) ≤ 28 := by omega
    have HNA := Lib.hid (show NumsAt w1 g 0 [rn c, rn p] from hN)
    have HA1 := Lib.hid (fun W => cleaning_any (rn c) (by omega) W)
    have HA2 := Lib.hid (fun W => again_any (n : Int) (rn p) (by omega) W)
    clear hv h28 hN hn cv pv
    go_wp2_with fail
    refine (HM.out _ HNA.out).mono ?_
    rintro e w2 ⟨rfl, h2⟩
    have hb2 := Lib.hid (bstep hb1.out h2)
    have HNA2 := Lib.hid (HNA.out.below h2)
    clear h2
    go_wp2_with fail
    have HT : Hid (([[moveI (n : Int) 0], cleanL (rn c), c] : List (List Ins)).flatten = moveI (n : Int) 0 :: behind c) := Lib.hid (by simp [behind])
    refine wp_region_inv (P := Try.prog) (fun listed a' w' => ∃ v : Nat → Value, a' = { tmps := #[.slice ac c.length cc, .slice ap p.length cp, undef, undef, .slice none 0 0, .int .i64 0, .slice (some ⟨g, 0, none⟩) 2 2, .int .i64 0, .int .i64 (n : Int), v 9, undef, undef, undef, .tuple #[.slice (some ⟨g, 0, none⟩) 2 2, .int .i64 0], .slice ac c.length cc, .slice ap p.length cp, .slice (some ⟨w.heap.size, 0, none⟩) 2 2, .tuple #[.slice (some ⟨g, 0, none⟩) 2 2, .int .i64 0], .slice (some ⟨g, 0, none⟩) 2 2, .int .i64 0, .int .i64 0, .bool false, undef, .slice (some ⟨g, 0, none⟩) 2 2, .int .i64 (n : Int), v 25, v 26, v 27, v 28, v 29, v 30, v 31, v 32, v 33, v 34, undef, undef, undef, undef, undef, undef, undef, undef, undef, undef, undef, undef, undef, undef, undef, undef, undef, undef, undef, undef, undef, undef, undef, undef, undef, undef, undef, undef, undef, undef, undef, undef, undef, undef, undef, undef, undef, undef, undef, undef, undef, undef], defers := [] } ∧ Below w2.heap.size w2 w' ∧
      ∀ j, listed.getD j false = true → (whileK n g c (.slice ac c.length cc) j).ok w' (v (whileS j))) (by kernel_rfl) ?start ?step ?done
    case start =>
      refine ⟨fun k => undef, rfl, (Below.refl _ _).drew, fun j hj => (start_none hj).elim⟩
    case step =>
      rintro listed a' w' i hs ⟨v, rfl, hb, hG⟩ hi
      have cell0 : w'.cell? ⟨g, 0, none⟩ = some (.int .i64 (rn c : Int)) := (HNA2.out.below hb).2 0 (rn c) rfl
      have hlt : i = 0 ∨ i = 1 ∨ i = 2 ∨ i = 3 ∨ i = 4 ∨ i = 5 ∨ i = 6 ∨ i = 7 ∨ i = 8 ∨ i = 9 ∨ i = 10 := by
        obtain ⟨_, o, ho, _⟩ := mem_ready.1 hi
        have := (Array.getElem?_eq_some_iff.1 ho).1
        simp at this; omega
      rcases hlt with rfl | rfl | rfl | rfl | rfl | rfl | rfl | rfl | rfl | rfl | rfl
      · refine wpOp_step rfl (fun K' hK => ?_)
        go_simp
        exact hK _ _ ⟨fun k => if k = 25 then ((.int .i64 (n : Int))) else v k, rfl, hb, RK.step (K := whileK n g c (.slice ac c.length cc)) whileS_ne (i := 0) (s := 25) rfl (Below.refl _ _) hG rfl⟩
      · have d0 : v 25 = (.int .i64 (n : Int)) := hG 0 (rdep hi rfl ⟨0, .data⟩ (by simp) rfl)
        refine wpOp_step rfl (fun K' hK => ?_)
        go_simp
        refine (bmove_is _ _ _).mono ?_
        rintro e w4 ⟨rfl, h4⟩
        exact hK _ _ ⟨fun k => if k = 26 then ((.agg #[.int .i64 1, .int .i64 (n : Int), .int .i64 0, .int .i64 0, .string ⟨#[]⟩])) else v k, by simp [d0], hb.trans (h4.mono hb.size), RK.step (K := whileK n g c (.slice ac c.length cc)) whileS_ne (i := 1) (s := 26) rfl h4 hG rfl⟩
      · have d1 : v 26 = (.agg #[.int .i64 1, .int .i64 (n : Int), .int .i64 0, .int .i64 0, .string ⟨#[]⟩]) := hG 1 (rdep hi rfl ⟨1, .data⟩ (by simp) rfl)
        refine wpOp_step rfl (fun K' hK => ?_)
        go_simp
        exact hK _ _ ⟨fun k => if k = 27 then (.slice (some ⟨w'.heap.size, 0, none⟩) 1 1) else v k, by simp [d1], hb.alloc hb.size _, RK.step (K := whileK n g c (.slice ac c.length cc)) whileS_ne (i := 2) (s := 27) rfl (alloc_below _ _) hG (one_prog w' (moveI (n : Int) 0))⟩
      · refine wpOp_step rfl (fun K' hK => ?_)
        go_simp
        exact hK _ _ ⟨fun k => if k = 28 then ((.slice (some ⟨g, 0, none⟩) 2 2)) else v k, rfl, hb, RK.step (K := whileK n g c (.slice ac c.length cc)) whileS_ne (i := 3) (s := 28) rfl (Below.refl _ _) hG rfl⟩
      · have d3 : v 28 = (.slice (some ⟨g, 0, none⟩) 2 2) := hG 3 (rdep hi rfl ⟨3, .data⟩ (by simp) rfl)
        refine wpOp_step rfl (fun K' hK => ?_)
        go_simp
        exact hK _ _ ⟨fun k => if k = 29 then ((.pointer (some ⟨g, 0, none⟩))) else v k, by simp [d3], hb, RK.step (K := whileK n g c (.slice ac c.length cc)) whileS_ne (i := 4) (s := 29) rfl (Below.refl _ _) hG rfl⟩
      · have d4 : v 29 = (.pointer (some ⟨g, 0, none⟩)) := hG 4 (rdep hi rfl ⟨4, .data⟩ (by simp) rfl)
        refine wpOp_step rfl (fun K' hK => ?_)
        go_simp
        exact hK _ _ ⟨fun k => if k = 30 then ((.int .i64 (rn c : Int))) else v k, by simp [d4], hb, RK.step (K := whileK n g c (.slice ac c.length cc)) whileS_ne (i := 5) (s := 30) rfl (Below.refl _ _) hG rfl⟩
      · have d5 : v 30 = (.int .i64 (rn c : Int)) := hG 5 (rdep hi rfl ⟨5, .data⟩ (by simp) rfl)
        refine wpOp_step rfl (fun K' hK => ?_)
        go_simp
        refine (HA1.out _).mono ?_
        rintro e w4 ⟨v10, rfl, ho10, h4⟩
        obtain ⟨a10, d10, e10⟩ := ho10.arg.form
        exact hK _ _ ⟨fun k => if k = 31 then (v10) else v k, by simp [d5], hb.trans (h4.mono hb.size), RK.step (K := whileK n g c (.slice ac c.length cc)) whileS_ne (i := 6) (s := 31) rfl h4 hG ⟨a10, d10, e10, e10 ▸ ho10.arg⟩⟩
      · refine wpOp_step rfl (fun K' hK => ?_)
        go_simp
        exact hK _ _ ⟨fun k => if k = 32 then (.slice ac c.length cc) else v k, rfl, hb, RK.step (K := whileK n g c (.slice ac c.length cc)) whileS_ne (i := 7) (s := 32) rfl (Below.refl _ _) hG rfl⟩
      · obtain ⟨x2, c2, d2, A2⟩ : ∃ a cx, v 27 = .slice a ([moveI (n : Int) 0] : List Ins).length cx ∧ ArgP w' (.slice a ([moveI (n : Int) 0] : List Ins).length cx) ([moveI (n : Int) 0]) := hG 2 (rdep hi rfl ⟨2, .data⟩ (by simp) rfl)
        obtain ⟨x6, c6, d6, A6⟩ : ∃ a cx, v 31 = .slice a ((cleanL (rn c)) : List Ins).length cx ∧ ArgP w' (.slice a ((cleanL (rn c)) : List Ins).length cx) ((cleanL (rn c))) := hG 6 (rdep hi rfl ⟨6, .data⟩ (by simp) rfl)
        have d7 : v 32 = .slice ac c.length cc := hG 7 (rdep hi rfl ⟨7, .data⟩ (by simp) rfl)
        refine wpOp_step rfl (fun K' hK => ?_)
        go_simp
        have hpc := lit_pieces w' [.slice x2 1 c2, .slice x6 (cleanL (rn c)).length c6, .slice ac c.length cc] [[moveI (n : Int) 0], cleanL (rn c), c] ⟨A2, A6, HC.out _ (bstep hb2.out hb), trivial⟩
        exact hK _ _ ⟨fun k => if k = 33 then (.slice (some ⟨w'.heap.size, 0, none⟩) 3 3) else v k, by simp [d2, d6, d7], hb.alloc hb.size _, RK.step (K := whileK n g c (.slice ac c.length cc)) whileS_ne (i := 8) (s := 33) rfl (alloc_below _ _) hG ⟨_, rfl, hpc⟩⟩
      · obtain ⟨x8, d8, A8⟩ : ∃ b, v 33 = .slice (some ⟨b, 0, none⟩) ([[moveI (n : Int) 0], cleanL (rn c), c] : List (List Ins)).length ([[moveI (n : Int) 0], cleanL (rn c), c] : List (List Ins)).length ∧ PiecesAt w' b 0 ([[moveI (n : Int) 0], cleanL (rn c), c]) := hG 8 (rdep hi rfl ⟨8, .data⟩ (by simp) rfl)
        refine wpOp_step rfl (fun K' hK => ?_)
        go_simp
        refine (Concat_any _ x8 0 3 _ A8 (by simp) (by rw [HT.out, List.length_cons, HBC.out]; omega)).mono ?_
        rintro e w4 ⟨v10, rfl, ho10, h4⟩
        rw [HT.out] at ho10
        obtain ⟨a10, d10, e10⟩ := (OwnP.arg (ps := moveI (n : Int) 0 :: behind c) ho10).form
        exact hK _ _ ⟨fun k => if k = 34 then (v10) else v k, by simp [d8], hb.trans (h4.mono hb.size), RK.step (K := whileK n g c (.slice ac c.length cc)) whileS_ne (i := 9) (s := 34) rfl h4 hG ⟨a10, d10, e10, e10 ▸ OwnP.arg (ps := moveI (n : Int) 0 :: behind c) ho10⟩⟩
      · obtain ⟨x9, c9, d9, A9⟩ : ∃ a cx, v 34 = .slice a ((moveI (n : Int) 0 :: behind c) : List Ins).length cx ∧ ArgP w' (.slice a ((moveI (n : Int) 0 :: behind c) : List Ins).length cx) ((moveI (n : Int) 0 :: behind c)) := hG 9 (rdep hi rfl ⟨9, .data⟩ (by simp) rfl)
        refine wpOp_step rfl (fun K' hK => ?_)
        go_simp
        exact hK _ _ ⟨fun k => if k = 9 then (v 34) else v k, by simp [d9], hb, RK.step (K := whileK n g c (.slice ac c.length cc)) whileS_ne (i := 10) (s := 9) rfl (Below.refl _ _) hG ⟨x9, c9, d9, A9⟩⟩
    case done =>
      rintro listed a' w' hs hr ⟨v, rfl, hb, hG⟩
      have h10 : ∃ a d, v 9 = .slice a (moveI (n : Int) 0 :: behind c).length d ∧ ArgP w' (.slice a (moveI (n : Int) 0 :: behind c).length d) (moveI (n : Int) 0 :: behind c) := hG 10 (all_listed hs (by kernel_rfl) hr 10 (by decide))
      obtain ⟨a9, d9, e9, A9⟩ := h10
      have HO9 := Lib.hid A9
      have hb3 := Lib.hid (bstep hb2.out hb)
      have HNA3 := Lib.hid (HNA2.out.below hb)
      have c1 : w'.cell? ⟨g, 1, none⟩ = some (.int .i64 (rn p : Int)) := HNA3.out.2 1 (rn p) rfl
      clear hG hs hr A9 hb
      rw [e9]
      generalize v 25 = y25 at *
      generalize v 26 = y26 at *
      generalize v 27 = y27 at *
      generalize v 28 = y28 at *
      generalize v 29 = y29 at *
      generalize v 30 = y30 at *
      generalize v 31 = y31 at *
      generalize v 32 = y32 at *
      generalize v 33 = y33 at *
      generalize v 34 = y34 at *
      clear e9
      go_wp2_with fail
      refine (HA2.out _).mono ?_
      rintro e w5 ⟨v5, rfl, ho5, h5⟩
      obtain ⟨a5, d5, rfl⟩ := ho5.arg.form
      have hb5 := Lib.hid (bstep hb3.out h5)
      have HO5 := Lib.hid ho5.arg
      have HO95 := Lib.hid (HO9.out.below h5)
      clear ho5 h5 c1
      go_wp2_with fail
      refine (bset_is _ _ _).mono ?_
      rintro e w6 ⟨rfl, h6⟩
      have A6 := Lib.hid (lit_prog w6 [setI n [49, 48, 48]] (by simp))
      have k6 := Lib.hid (h6.alloc h6.size (.cells (progV [setI n [49, 48, 48]]).toArray 57))
      have hb6 := Lib.hid (bstep hb5.out k6.out)
      have HL6 := Lib.hid (lit_piecesB (w := w6.alloc (.cells (progV [setI n [49, 48, 48]]).toArray 57)) (b := w6.heap.size + 1) (by simp) [.slice a5 (moveI 0 (n : Int) :: cleanL (rn p)).length d5, .slice ap p.length cp, .slice (some ⟨w6.heap.size, 0, none⟩) 1 1] [moveI 0 (n : Int) :: cleanL (rn p), p, [setI n [49, 48, 48]]] ⟨HO5.out.below k6.out, HP.out _ hb6.out, A6.out, trivial⟩)
      have k6a := Lib.hid (bstep k6.out (alloc_below _ (.cells #[.slice a5 (moveI 0 (n : Int) :: cleanL (rn p)).length d5, .slice ap p.length cp, .slice (some ⟨w6.heap.size, 0, none⟩) 1 1] 23)))
      have hb6a := Lib.hid (bstep hb5.out k6a.out)
      have HO96 := Lib.hid (HO95.out.below k6a.out)
      have HY : Hid (([moveI 0 (n : Int) :: cleanL (rn p), p, [setI n [49, 48, 48]]] : List (List Ins)).flatten = bodyL n p) := Lib.hid (by simp [bodyL, behind])
      have HC6 := Lib.hid (Concat_any _ _ 0 3 _ HL6.out (by simp) (by rw [HY.out, bodyL_len, HBP.out]; omega))
      rw [HY.out] at HC6
      clear h6
      go_wp2_with fail
      refine HC6.out.mono ?_
      rintro e w7 ⟨v7, rfl, ho7, h7⟩
      have ho7' : OwnP w7 _ v7 (bodyL n p) := ho7
      obtain ⟨a7, d7, rfl⟩ := ho7'.arg.form
      have HO7 := Lib.hid ho7'.arg
      have hb7 := Lib.hid (bstep hb6a.out h7)
      have HO97 := Lib.hid (HO96.out.below h7)
      clear ho7 ho7' h7
      have HYL : Hid ((bodyL n p).length ≤ 5000) := Lib.hid (by rw [bodyL_len, HBP.out]; omega)
      have hyl := HYL.out
      generalize hy : (bodyL n p).length = y at *
      have HYE := Lib.hid hy
      clear hy
      have hw1 : IntKind.i64.wrap ((y : Int) + 1) = (y : Int) + 1 := by rw [IntKind.wrap_i64]; omega
      have hyi : (y : Int) ≤ 5000 := by omega
      go_wp2_with fail
      refine (bmove_is _ _ _).mono ?_
      rintro e w8 ⟨rfl, h8⟩
      have A8 := Lib.hid (lit_prog w8 [moveI 0 (n : Int)] (by simp))
      have k8 := Lib.hid (h8.alloc h8.size (.cells (progV [moveI 0 (n : Int)]).toArray 57))
      have hb8 := Lib.hid (bstep hb7.out k8.out)
      have HO98 := Lib.hid (HO97.out.below k8.out)
      have HO78 := Lib.hid (HO7.out.below k8.out)
      clear h8
      go_wp2_with fail
      refine (skip_any (n : Int) ((y : Int) + 1) (by omega) _).mono ?_
      rintro e w9 ⟨v9, rfl, ho9, h9⟩
      obtain ⟨a9', d9', rfl⟩ := ho9.arg.form
      have hb9 := Lib.hid (bstep hb8.out h9)
      have HL9 := Lib.hid (lit_pieces w9 [.slice (some ⟨w8.heap.size, 0, none⟩) 1 1, .slice a9' 2 d9'] [[moveI 0 (n : Int)], [setI n [49, 48, 48], jumpI n (1 + ((y : Int) + 1))]] ⟨A8.out.below h9, ho9.arg, trivial⟩)
      have k9a := Lib.hid (bstep h9 (alloc_below w9 (.cells #[.slice (some ⟨w8.heap.size, 0, none⟩) 1 1, .slice a9' 2 d9'] 23)))
      have hb9a := Lib.hid (bstep hb8.out k9a.out)
      have HO99 := Lib.hid (HO98.out.below k9a.out)
      have HO79 := Lib.hid (HO78.out.below k9a.out)
      have HZ : Hid (([[moveI 0 (n : Int)], [setI n [49, 48, 48], jumpI n (1 + ((y : Int) + 1))]] : List (List Ins)).flatten = stopL n ((y : Int) + 1)) := Lib.hid (by simp [stopL])
      have HC9 := Lib.hid (Concat_any _ w9.heap.size 0 2 _ HL9.out (by simp) (by rw [HZ.out]; simp [stopL]))
      rw [HZ.out] at HC9
      clear ho9 h9
      go_wp2_with fail
      refine HC9.out.mono ?_
      rintro e w10 ⟨v10, rfl, ho10, h10⟩
      have ho10' : OwnP w10 _ v10 (stopL n ((y : Int) + 1)) := ho10
      obtain ⟨a10, d10, e10⟩ := ho10'.arg.form
      obtain rfl : v10 = .slice a10 3 d10 := e10
      have HO10 := Lib.hid ho10'.arg
      have hb10 := Lib.hid (bstep hb9a.out h10)
      have HO910 := Lib.hid (HO99.out.below h10)
      have HO710 := Lib.hid (HO79.out.below h10)
      clear ho10 ho10' h10
      go_wp2_with fail
      refine (bjump_is _ _ _).mono ?_
      rintro e w11 ⟨rfl, h11⟩
      have A11 := Lib.hid (lit_prog w11 [jumpI 0 4] (by simp))
      have k11 := Lib.hid (h11.alloc h11.size (.cells (progV [jumpI 0 4]).toArray 57))
      have hb11 := Lib.hid (bstep hb10.out k11.out)
      have HL11 := Lib.hid (lit_piecesB (w := w11.alloc (.cells (progV [jumpI 0 4]).toArray 57)) (b := w11.heap.size + 1) (by simp) [.slice a9 (moveI (n : Int) 0 :: behind c).length d9, .slice (some ⟨w11.heap.size, 0, none⟩) 1 1, .slice a10 3 d10, .slice a7 y d7] [moveI (n : Int) 0 :: behind c, [jumpI 0 4], stopL n ((y : Int) + 1), bodyL n p] ⟨HO910.out.below k11.out, A11.out, HO10.out.below k11.out, HO710.out.below k11.out, trivial⟩)
      have k11a := Lib.hid (bstep k11.out (alloc_below _ (.cells #[.slice a9 (moveI (n : Int) 0 :: behind c).length d9, .slice (some ⟨w11.heap.size, 0, none⟩) 1 1, .slice a10 3 d10, .slice a7 y d7] 23)))
      have hb11a := Lib.hid (bstep hb10.out k11a.out)
      have HZ2 : Hid (([moveI (n : Int) 0 :: behind c, [jumpI 0 4], stopL n ((y : Int) + 1), bodyL n p] : List (List Ins)).flatten = loopL n c p ((y : Int) + 1)) := Lib.hid (by simp [loopL])
      have HC11 := Lib.hid (Concat_any _ _ 0 4 _ HL11.out (by simp) (by rw [HZ2.out, loopL_len]; have := HBC.out; have := HBP.out; omega))
      rw [HZ2.out] at HC11
      clear h11
      go_wp2_with fail
      refine HC11.out.mono ?_
      rintro e w12 ⟨v12, rfl, ho12, h12⟩
      have ho12' : OwnP w12 _ v12 (loopL n c p ((y : Int) + 1)) := ho12
      obtain ⟨a12, d12, rfl⟩ := ho12'.arg.form
      have HO12 := Lib.hid ho12'.arg
      have hb12 := Lib.hid (bstep hb11a.out h12)
      clear ho12 ho12' h12
      have HLL : Hid ((loopL n c p ((y : Int) + 1)).length ≤ 10000) := Lib.hid (by rw [loopL_len]; have := HBC.out; have := HBP.out; omega)
      have hll := HLL.out
      generalize hl : (loopL n c p ((y : Int) + 1)).length = l at *
      have HLE := Lib.hid hl
      clear hl
      have hw2 : IntKind.i64.wrap (-(l : Int)) = -(l : Int) := by rw [IntKind.wrap_i64]; omega
      go_wp2_with fail
      refine (bjump_is _ _ _).mono ?_
      rintro e w13 ⟨rfl, h13⟩
      have A13 := Lib.hid (lit_prog w13 [jumpI (n : Int) (-(l : Int))] (by simp))
      have k13 := Lib.hid (h13.alloc h13.size (.cells (progV [jumpI (n : Int) (-(l : Int))]).toArray 57))
      have hb13 := Lib.hid (bstep hb12.out k13.out)
      have HL13 := Lib.hid (lit_piecesB (w := w13.alloc (.cells (progV [jumpI (n : Int) (-(l : Int))]).toArray 57)) (b := w13.heap.size + 1) (by simp) [.slice a12 l d12, .slice (some ⟨w13.heap.size, 0, none⟩) 1 1] [loopL n c p ((y : Int) + 1), [jumpI (n : Int) (-(l : Int))]] ⟨HO12.out.below k13.out, A13.out, trivial⟩)
      have hb13a := Lib.hid (hb13.out.alloc hb13.out.size (.cells #[.slice a12 l d12, .slice (some ⟨w13.heap.size, 0, none⟩) 1 1] 23))
      have HJ := Lib.hid (join_any _ _ 0 2 _ (whileL c p) (HIF.out n y l rfl HYE.out HLE.out) HL13.out (by simp) (by have := HLEN.out; have := HBC.out; have := HBP.out; omega) HTR.out)
      clear h13
      go_wp2_with fail
      refine HJ.out.mono ?_
      rintro e w14 ⟨h14, hJ⟩
      have HB := Lib.hid (HF.out w14 e ⟨bstep hb13a.out h14, hJ⟩)
      clear h14
      rcases hJ with ⟨_, v, rfl, hA⟩ | ⟨hn, rfl⟩
      · clear hA
        go_wp2_with fail
        go_ret2
        exact HB.out
      · clear hn
        go_wp2_with fail
        go_ret2
        exact HB.out
end Go.Proofs.Ytpiahjbpidcjpaa
