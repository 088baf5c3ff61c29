/- Package run: First. By an AI agent. -/
import Derived.Test.YtkpfocgcnehajaaStepM
import Derived.Laws.CopyOwn
import Derived.Test.YtkpfocgcnehajaaTouchW
namespace Go.Proofs.Ytkpfocgcnehajaa
open Go.RowKit Pl

theorem own_heap32 {w : World} {B : Nat} {e : TypeId} {xs : List Value} (h : w.ownsRow B e 1 (.slice (some ⟨B, 0, none⟩) 32 32) 32 xs) : ∃ cur : List Value, w.heap[B]? = some (.cells cur.toArray e (0, 0)) ∧ cur.length = 32 := by
  rcases h.2 with ⟨h', _⟩ | ⟨g, cap, cur, h', hb, hg, hnc, hcm, hcs, htake⟩
  · simp at h'
  · simp only [Value.slice.injEq, Option.some.injEq, Addr.mk.injEq, and_true, true_and] at h'
    obtain ⟨rfl, rfl⟩ := h'
    exact ⟨cur.toList, by simpa using hg, by simpa using hcs⟩
theorem copy_src {w : World} {D n m : Nat} {cr : List Value} {t : TypeId} {z : Value} (h : w.heap[D]? = some (.cells cr.toArray t (0, 0))) (hr : cr.length = 32 ∧ ∀ j, j < n → cr[j]? = some z) (hm : m ≤ n) : ∀ j v, (List.replicate m z)[j]? = some v → w.cell? ((⟨D, 0, none⟩ : Addr).add j) = some v := by
  intro j v hv
  rw [List.getElem?_replicate] at hv
  by_cases hj : j < m
  · rw [if_pos hj] at hv
    cases hv
    rw [add_at]
    have h1 := Lib.cell_of_heap h j
    rw [h1]
    simpa using hr.2 j (by omega)
  · rw [if_neg hj] at hv; cases hv
theorem row_rep {w : World} {D : Nat} {cr : List Value} {t : TypeId} (h : w.heap[D]? = some (.cells cr.toArray t (0, 0))) (hr : ∀ j, j < 32 → cr[j]? = some (.string (S [48]))) : StrRow w D 0 32 (List.replicate 32 [48]) := by
  refine ⟨(Array.getElem?_eq_some_iff.1 h).1, fun j hj => ?_⟩
  rw [Nat.zero_add, Lib.cell_of_heap h j]
  have h1 := hr j hj
  have h2 : (List.replicate 32 ([48] : List UInt8)).getD j [] = [48] := by rw [List.getD, List.getElem?_replicate, if_pos hj]; rfl
  rw [h2]
  simpa using h1
set_option maxHeartbeats 400000 in
set_option maxRecDepth 100000 in
/-- what holds within the region that copies the first n places behind themselves -/
structure Cpy (D n m : Nat) (cr cs : List Value) (w0 : World) (l : Nat → Bool) (w : World) (v : Nat → Value) : Prop where
  b : Below D w0 w
  mem : w.heap[D]? = some (.cells (bif l 7 then splice cr n cs else cr).toArray 9 (0, 0))
  f0 : l 0 = true → v 38 = .int .i64 (n : Int)
  f1 : l 1 = true → v 39 = .slice (some ⟨D, 0, none⟩) 32 32
  f2 : l 2 = true → v 40 = .int .i64 (n : Int)
  f3 : l 3 = true → v 41 = .slice (some ⟨D, n, none⟩) (32 - n) (32 - n)
  f4 : l 4 = true → v 42 = .slice (some ⟨D, 0, none⟩) 32 32
  f5 : l 5 = true → v 43 = .int .i64 (n : Int)
  f6 : l 6 = true → v 44 = .slice (some ⟨D, 0, none⟩) n 32
  f7 : l 7 = true → v 45 = .int .i64 (m : Int)
  f8 : l 8 = true → v 46 = .int .i64 ((n + m : Nat) : Int)
  f9 : l 9 = true → v 8 = .int .i64 ((n + m : Nat) : Int)
  g8 : l 9 = false → v 8 = .int .i64 (n : Int)
  g9 : l 9 = true → l 0 = true ∧ l 2 = true ∧ l 5 = true
section
variable {D n m : Nat} {cr cs : List Value} {w0 : World} {l : Nat → Bool} {w : World} {v : Nat → Value}
theorem Cpy.s0 (h : Cpy D n m cr cs w0 l w v) : Cpy D n m cr cs w0 (tupd l 0) w (tput v 38 (.int .i64 (n : Int))) :=
  ⟨h.b, h.mem, fun _ => rfl, h.f1, h.f2, h.f3, h.f4, h.f5, h.f6, h.f7, h.f8, h.f9, h.g8, fun e => ⟨rfl, (h.g9 e).2⟩⟩
theorem Cpy.s1 (h : Cpy D n m cr cs w0 l w v) : Cpy D n m cr cs w0 (tupd l 1) w (tput v 39 (.slice (some ⟨D, 0, none⟩) 32 32)) :=
  ⟨h.b, h.mem, h.f0, fun _ => rfl, h.f2, h.f3, h.f4, h.f5, h.f6, h.f7, h.f8, h.f9, h.g8, h.g9⟩
theorem Cpy.s2 (h : Cpy D n m cr cs w0 l w v) : Cpy D n m cr cs w0 (tupd l 2) w (tput v 40 (.int .i64 (n : Int))) :=
  ⟨h.b, h.mem, h.f0, h.f1, fun _ => rfl, h.f3, h.f4, h.f5, h.f6, h.f7, h.f8, h.f9, h.g8, fun e => ⟨(h.g9 e).1, rfl, (h.g9 e).2.2⟩⟩
theorem Cpy.s3 (h : Cpy D n m cr cs w0 l w v) : Cpy D n m cr cs w0 (tupd l 3) w (tput v 41 (.slice (some ⟨D, n, none⟩) (32 - n) (32 - n))) :=
  ⟨h.b, h.mem, h.f0, h.f1, h.f2, fun _ => rfl, h.f4, h.f5, h.f6, h.f7, h.f8, h.f9, h.g8, h.g9⟩
theorem Cpy.s4 (h : Cpy D n m cr cs w0 l w v) : Cpy D n m cr cs w0 (tupd l 4) w (tput v 42 (.slice (some ⟨D, 0, none⟩) 32 32)) :=
  ⟨h.b, h.mem, h.f0, h.f1, h.f2, h.f3, fun _ => rfl, h.f5, h.f6, h.f7, h.f8, h.f9, h.g8, h.g9⟩
theorem Cpy.s5 (h : Cpy D n m cr cs w0 l w v) : Cpy D n m cr cs w0 (tupd l 5) w (tput v 43 (.int .i64 (n : Int))) :=
  ⟨h.b, h.mem, h.f0, h.f1, h.f2, h.f3, h.f4, fun _ => rfl, h.f6, h.f7, h.f8, h.f9, h.g8, fun e => ⟨(h.g9 e).1, (h.g9 e).2.1, rfl⟩⟩
theorem Cpy.s6 (h : Cpy D n m cr cs w0 l w v) : Cpy D n m cr cs w0 (tupd l 6) w (tput v 44 (.slice (some ⟨D, 0, none⟩) n 32)) :=
  ⟨h.b, h.mem, h.f0, h.f1, h.f2, h.f3, h.f4, h.f5, fun _ => rfl, h.f7, h.f8, h.f9, h.g8, h.g9⟩
theorem Cpy.s7 (h : Cpy D n m cr cs w0 l w v) {w' : World} (hm : w'.heap[D]? = some (.cells (splice cr n cs).toArray 9 (0, 0))) (hb : Below D w0 w') : Cpy D n m cr cs w0 (tupd l 7) w' (tput v 45 (.int .i64 (m : Int))) :=
  ⟨hb, hm, h.f0, h.f1, h.f2, h.f3, h.f4, h.f5, h.f6, fun _ => rfl, h.f8, h.f9, h.g8, h.g9⟩
theorem Cpy.s8 (h : Cpy D n m cr cs w0 l w v) : Cpy D n m cr cs w0 (tupd l 8) w (tput v 46 (.int .i64 ((n + m : Nat) : Int))) :=
  ⟨h.b, h.mem, h.f0, h.f1, h.f2, h.f3, h.f4, h.f5, h.f6, h.f7, fun _ => rfl, h.f9, h.g8, h.g9⟩
theorem Cpy.s9 (h : Cpy D n m cr cs w0 l w v) (h0 : l 0 = true) (h2 : l 2 = true) (h5 : l 5 = true) : Cpy D n m cr cs w0 (tupd l 9) w (tput v 8 (.int .i64 ((n + m : Nat) : Int))) :=
  ⟨h.b, h.mem, h.f0, h.f1, h.f2, h.f3, h.f4, h.f5, h.f6, h.f7, h.f8, fun _ => rfl, fun e => (by cases (show true = false from e)), fun _ => ⟨h0, h2, h5⟩⟩
end
theorem splice_fill {cr : List Value} {n m : Nat} {z : Value} (hl : cr.length = 32) (hm : n + m ≤ 32) (h : ∀ j, j < n → cr[j]? = some z) : ∀ j, j < n + m → (splice cr n (List.replicate m z))[j]? = some z := by
  intro j hj
  unfold splice
  by_cases h1 : j < n
  · rw [List.getElem?_append_left (by rw [List.length_take, hl]; omega), List.getElem?_take_of_lt h1]
    exact h j h1
  · have ht : (List.take n cr).length = n := by rw [List.length_take, hl]; omega
    rw [List.getElem?_append_right (by rw [ht]; omega), ht, List.getElem?_append_left (by simp; omega), List.getElem?_replicate, if_pos (by omega)]
theorem mul_32 (w : World) : Calls Try.prog 130 #[.int .u64 1, .int .u64 32] w fun e w' => e = .returned (.tuple #[.int .u64 0, .int .u64 32]) ∧ w = w' := by
  go_enter Try.func130, Try.ntmps130
  go_wp2
  go_ret2
  refine ⟨?_, rfl⟩
  first | rfl | decide
set_option maxHeartbeats 1600000 in
set_option maxRecDepth 100000 in
theorem repeat_any (w : World) (G : Nat) (hc : w.cell? ⟨G, 0, none⟩ = some (.string (S [48]))) :
    Calls Try.prog 100 #[.slice (some ⟨G, 0, none⟩) 1 1, .int .i64 32] w fun e w' => ∃ D, e = .returned (.slice (some ⟨D, 0, none⟩) 32 32) ∧ w.heap.size ≤ D ∧ StrRow w' D 0 32 (List.replicate 32 [48]) ∧ w'.frozen? ⟨D, 0, none⟩ = false ∧ Below w.heap.size w w' := by
  obtain ⟨i0, hi, hz0, hz1, hz2⟩ := info_parts Try.infoStr
  go_enter Try.func100, Try.ntmps100
  go_wp2_with (first | (go_at_call 130; refine (mul_32 _).mono ?_; rintro e w0 ⟨rfl, rfl⟩) | (at_make; refine wpList_make_full _ rfl _ _ 76 rfl w.heap.size 9 i0 (.string ⟨#[]⟩) 1 Try.underlying76 hi hz0 hz1 .i64 .i64 _ _ 32 rfl rfl rfl rfl (by rw [hz2]; omega) (by unfold maxLen; omega) (Nat.le_refl _) ?_))
  intro w1 hown hgrow
  have hb1 : Below w.heap.size w w1 := (Below.refl _ _).grown hgrow (Nat.le_refl _) (by simp)
  have hG1 := cell_keep hb1 hc
  obtain ⟨cur, hcur, hcl⟩ := own_heap32 hown
  generalize hD : w.heap.size = D at *
  have HB1 := Lib.hid hb1
  have HCUR := Lib.hid hcur; have HCL := Lib.hid hcl; have HG1 := Lib.hid hG1; have HD := Lib.hid hD
  have HZP : Hid (∀ j v, [Value.string (S [48])][j]? = some v → w1.cell? ((⟨G, 0, none⟩ : Addr).add j) = some v) := Lib.hid fun j v hv => by
    rcases j with _ | j
    · simp at hv
      subst hv
      exact HG1.out
    · simp at hv
  clear hown hgrow hb1 hcur hcl hG1 hD hc
  go_wp2_with (refine wpList_copy_splice ?zg (.tmp 31) (.tmp 32) 76 76 ?zo 9 ?zu ?zs (some ⟨D, 0, none⟩) (some ⟨G, 0, none⟩) 32 32 1 1 ?zd ?ze D 0 cur 9 ?zh [.string (S [48])] ?zn (fun _ => ⟨rfl, _, rfl, HZP.out⟩) ?zf ?z1 D w ?zb ?zl ?zz
               case zo => with_reducible exact rfl)
  case zg => exact rfl
  case zu => exact Try.underlying76
  case zs => kernel_rfl
  case zd => exact rfl
  case ze => exact rfl
  case zh => exact HCUR.out
  case zn => rfl
  case zf => simp [HCL.out]
  case z1 => intro u hu; simp at hu; subst hu; rfl
  case zb => exact HB1.out
  case zl => exact Nat.le_refl _
  case zz =>
    intro w2 hg2 hb2
    have hF : Hid (∀ j, j < 1 → (splice cur 0 [Value.string (S [48])])[j]? = some (.string (S [48]))) := Lib.hid fun j hj => by
      obtain rfl : j = 0 := by omega
      simp [splice]
    have hSL : Hid ((splice cur 0 [Value.string (S [48])]).length = 32) := Lib.hid (by rw [length_splice _ _ _ (by simp [HCL.out])]; exact HCL.out)
    generalize splice cur 0 [Value.string (S [48])] = cur2 at *
    have HB2 := Lib.hid hb2
    clear hb2
    go_wp2_with fail
    go_loopw [8] (fun v wr => ∃ (n : Nat) (cr : List Value), 1 ≤ n ∧ n ≤ 32 ∧ v = .int .i64 (n : Int) ∧ Hid (wr.heap[D]? = some (.cells cr.toArray 9 (0, 0))) ∧ Hid (cr.length = 32 ∧ ∀ j, j < n → cr[j]? = some (.string (S [48]))) ∧ Below D w wr) (fun v _ => 32 - (intOf v).toNat)
    case atStart => exact ⟨1, cur2, by omega, by omega, rfl, hg2, Lib.hid ⟨hSL.out, hF.out⟩, HB2.out⟩
    case round =>
      obtain ⟨n, cr, hn1, hn2, rfl, HC, HR, hb⟩ := hrel
      by_cases hlt : n < 32
      · obtain ⟨m, hm⟩ : ∃ m, m = min n (32 - n) := ⟨_, rfl⟩
        have hm1 : 1 ≤ m ∧ m ≤ n ∧ n + m ≤ 32 := by rw [hm]; omega
        have HB := Lib.hid hb
        clear hb
        have i1 : (n : Int) < 32 := by omega
        have i2 : (n : Int) ≤ 32 := by omega
        have i3 : ¬ (32 = n) := by omega
        have i0 : (0 : Int) ≤ (n : Int) := by omega
        have HM := Lib.hid hm
        have hwr : IntKind.i64.wrap ((n : Int) + (m : Int)) = ((n + m : Nat) : Int) := by rw [Go.IntWalk.i64_in _ (by omega)]; omega
        have h32n : ((32 - n : Nat) : Int) = 32 - (n : Int) := by omega
        clear hm
        go_wp2_with fail
        have hcn : (List.replicate m (Value.string (S [48]))).length = Nat.min n (32 - n) := by rw [HM.out]; simp
        have hsrc := copy_src (z := .string (S [48])) HC.out HR.out hm1.2.1
        have hfit : n + (List.replicate m (Value.string (S [48]))).length ≤ cr.length := by simp [HR.out.1]; omega
        have hone : ∀ u ∈ List.replicate m (Value.string (S [48])), u.oneCell' = true := by intro u hu; rw [List.mem_replicate] at hu; rw [hu.2]; rfl
        have HCN := Lib.hid hcn; have HSRC := Lib.hid hsrc; have HFIT := Lib.hid hfit; have HONE := Lib.hid hone
        clear hcn hsrc hfit hone
        obtain ⟨cs, hcs⟩ : ∃ cs, cs = List.replicate m (Value.string (S [48])) := ⟨_, rfl⟩
        rw [← hcs] at HCN HSRC HFIT HONE
        have HCS := Lib.hid hcs
        clear hcs
        have hB0 : Hid (Below D w wr.drew) := Lib.hid HB.out.drew
        have HCSL : Hid (cs.length = m) := Lib.hid (by rw [HCS.out]; simp)
        have HSRCW : Hid (∀ W : World, W.heap[D]? = some (.cells (bif false then splice cr n cs else cr).toArray 9 (0, 0)) → ∀ j v, cs[j]? = some v → W.cell? ((⟨D, 0, none⟩ : Addr).add j) = some v) := Lib.hid fun W hW => by rw [HCS.out]; exact copy_src (z := .string (S [48])) hW HR.out hm1.2.1
        refine wp_region_inv (P := Try.prog) (fun listed a' w' => ∃ v : Nat → Value, a' = { tmps := #[.slice (some ⟨G, 0, none⟩) 1 1, .int .i64 32, undef, undef, .slice none 0 0, .int .u64 0, .int .u64 32, .slice (some ⟨D, 0, none⟩) 32 32, v 8, .int .i64 32, .bool false, undef, .tuple #[.int .u64 0, .int .u64 32], .slice (some ⟨G, 0, none⟩) 1 1, .int .i64 1, .int .u64 1, .int .i64 32, .int .u64 32, .tuple #[.int .u64 0, .int .u64 32], .int .u64 0, .int .u64 32, .int .u64 0, .bool false, .bool false, .int .u64 32, .bool false, .bool false, undef, .int .u64 32, .int .i64 32, .slice (some ⟨D, 0, none⟩) 32 32, .slice (some ⟨D, 0, none⟩) 32 32, .slice (some ⟨G, 0, none⟩) 1 1, .int .i64 1, .int .i64 (n : Int), .slice (some ⟨D, 0, none⟩) 32 32, .int .i64 32, .bool true, v 38, v 39, v 40, v 41, v 42, v 43, v 44, v 45, v 46, undef], defers := [] } ∧ Cpy D n m cr cs w (fun j => listed.getD j false) w' v) (by kernel_rfl) ?start ?step ?done
        case start =>
          have hno : ∀ {P : Prop} {j : Nat}, (Array.replicate 10 false).getD j false = true → P := fun h => (tstart h).elim
          exact ⟨fun k => if k = 8 then .int .i64 (n : Int) else if k = 38 then u38 else if k = 39 then u39 else if k = 40 then u40 else if k = 41 then u41 else if k = 42 then u42 else if k = 43 then u43 else if k = 44 then u44 else if k = 45 then u45 else u46, rfl, hB0.out, HC.out, fun h => hno h, fun h => hno h, fun h => hno h, fun h => hno h, fun h => hno h, fun h => hno h, fun h => hno h, fun h => hno h, fun h => hno h, fun h => hno h, fun _ => rfl, fun h => hno h⟩
        case step =>
          rintro listed a' w' i hs ⟨v, rfl, h⟩ hi
          obtain ⟨hnl, hil⟩ := tnot (mem_ready.1 hi).1
          have hlt : i = 0 ∨ i = 1 ∨ i = 2 ∨ i = 3 ∨ i = 4 ∨ i = 5 ∨ i = 6 ∨ i = 7 ∨ i = 8 ∨ i = 9 := by
            obtain ⟨_, o, ho, _⟩ := mem_ready.1 hi
            have := (Array.getElem?_eq_some_iff.1 ho).1
            simp at this; omega
          rcases hlt with rfl | rfl | rfl | rfl | rfl | rfl | rfl | rfl | rfl | rfl
          · have d8 := h.g8 (tun (l := fun j => listed.getD j false) (i := 0) (j := 9) (fun e => (h.g9 e).1) hnl)
            refine wpOp_step rfl (fun K' hK => ?_)
            go_simp
            exact hK _ _ ⟨tput v 38 (.int .i64 (n : Int)), by simp [tput, d8], tupd_eq hil ▸ h.s0⟩
          · refine wpOp_step rfl (fun K' hK => ?_)
            go_simp
            exact hK _ _ ⟨tput v 39 (.slice (some ⟨D, 0, none⟩) 32 32), rfl, tupd_eq hil ▸ h.s1⟩
          · have d8 := h.g8 (tun (l := fun j => listed.getD j false) (i := 2) (j := 9) (fun e => (h.g9 e).2.1) hnl)
            refine wpOp_step rfl (fun K' hK => ?_)
            go_simp
            exact hK _ _ ⟨tput v 40 (.int .i64 (n : Int)), by simp [tput, d8], tupd_eq hil ▸ h.s2⟩
          · have d1 := h.f1 (rdepT hi rfl ⟨1, .data⟩ (by simp) rfl)
            have d2 := h.f2 (rdepT hi rfl ⟨2, .data⟩ (by simp) rfl)
            refine wpOp_step rfl (fun K' hK => ?_)
            go_simp
            exact hK _ _ ⟨tput v 41 (.slice (some ⟨D, n, none⟩) (32 - n) (32 - n)), by simp [tput, d1, d2], tupd_eq hil ▸ h.s3⟩
          · refine wpOp_step rfl (fun K' hK => ?_)
            go_simp
            exact hK _ _ ⟨tput v 42 (.slice (some ⟨D, 0, none⟩) 32 32), rfl, tupd_eq hil ▸ h.s4⟩
          · have d8 := h.g8 (tun (l := fun j => listed.getD j false) (i := 5) (j := 9) (fun e => (h.g9 e).2.2) hnl)
            refine wpOp_step rfl (fun K' hK => ?_)
            go_simp
            exact hK _ _ ⟨tput v 43 (.int .i64 (n : Int)), by simp [tput, d8], tupd_eq hil ▸ h.s5⟩
          · have d4 := h.f4 (rdepT hi rfl ⟨4, .data⟩ (by simp) rfl)
            have d5 := h.f5 (rdepT hi rfl ⟨5, .data⟩ (by simp) rfl)
            refine wpOp_step rfl (fun K' hK => ?_)
            go_simp
            exact hK _ _ ⟨tput v 44 (.slice (some ⟨D, 0, none⟩) n 32), by simp [tput, d4, d5], tupd_eq hil ▸ h.s6⟩
          · have d3 := h.f3 (rdepT hi rfl ⟨3, .data⟩ (by simp) rfl)
            have d6 := h.f6 (rdepT hi rfl ⟨6, .data⟩ (by simp) rfl)
            have hmem := h.mem
            rw [show (listed.getD 7 false) = false from hnl] at hmem
            refine wpOp_step rfl (fun K' hK => ?_)
            refine step_copy_splice rfl (.tmp 41) (.tmp 44) 76 76 rfl 9 Try.underlying76 (by kernel_rfl) (some ⟨D, n, none⟩) (some ⟨D, 0, none⟩) (32 - n) (32 - n) n 32 d3 d6 D n cr 9 hmem cs HCN.out (fun _ => ⟨rfl, _, rfl, HSRCW.out _ hmem⟩) HFIT.out HONE.out D w h.b (Nat.le_refl _) (fun w4 hg4 hb4 => ?_)
            have he : goInt cs.length = .int .i64 (m : Int) := by rw [HCSL.out]; rfl
            rw [he]
            exact hK _ _ ⟨tput v 45 (.int .i64 (m : Int)), rfl, tupd_eq hil ▸ h.s7 hg4.out hb4⟩
          · have d0 := h.f0 (rdepT hi rfl ⟨0, .data⟩ (by simp) rfl)
            have d7 := h.f7 (rdepT hi rfl ⟨7, .data⟩ (by simp) rfl)
            refine wpOp_step rfl (fun K' hK => ?_)
            go_simp
            exact hK _ _ ⟨tput v 46 (.int .i64 ((n + m : Nat) : Int)), by simp [tput, d0, d7], tupd_eq hil ▸ h.s8⟩
          · have d8 := h.f8 (rdepT hi rfl ⟨8, .data⟩ (by simp) rfl)
            refine wpOp_step rfl (fun K' hK => ?_)
            go_simp
            exact hK _ _ ⟨tput v 8 (.int .i64 ((n + m : Nat) : Int)), by simp [tput, d8], tupd_eq hil ▸ h.s9 (rdepT hi rfl ⟨0, .phase⟩ (by simp) rfl) (rdepT hi rfl ⟨2, .phase⟩ (by simp) rfl) (rdepT hi rfl ⟨5, .phase⟩ (by simp) rfl)⟩
        case done =>
          rintro listed a' w' hs hr ⟨v, rfl, h⟩
          have al : ∀ j, j < 10 → listed.getD j false = true := fun j hj => all_listed2 hs (by kernel_rfl) hr j hj
          have d8 := h.f9 (al 9 (by omega))
          have hmem := h.mem
          rw [show (listed.getD 7 false) = true from al 7 (by omega)] at hmem
          have HMEM := Lib.hid hmem; have HBB := Lib.hid h.b
          clear al h hs hr hmem
          go_wp2_with fail
          go_roundw
          case rel => exact ⟨n + m, splice cr n cs, by omega, by omega, by first | rfl | (simp; done) | go_num, HMEM, Lib.hid ⟨by rw [length_splice _ _ _ HFIT.out]; exact HR.out.1, by rw [HCS.out]; exact splice_fill HR.out.1 hm1.2.2 HR.out.2⟩, HBB.out⟩
          case measure => rw [d8]; simp [intOf]; omega
      · obtain rfl : n = 32 := by omega
        go_wp2
        go_ret
        exact ⟨D, rfl, by rw [HD.out]; exact Nat.le_refl _, row_rep HC.out HR.out.2, Lib.frozen_of_heap HC.out 0, by rw [HD.out]; exact hb⟩
/-- the box of First's state -/
structure FB (w W : World) : Prop where
  c0 : W.cell? ⟨w.heap.size, 0, none⟩ = some (.int .i64 0)
  c1 : W.cell? ⟨w.heap.size, 1, none⟩ = some (.slice none 0 0)
  f0 : W.frozen? ⟨w.heap.size, 0, none⟩ = false
  f1 : W.frozen? ⟨w.heap.size, 1, none⟩ = false
  size : w.heap.size + 1 ≤ W.heap.size
  below : Below w.heap.size w W
theorem fb_new (w : World) : FB w (w.alloc (.cells #[.int .i64 0, .slice none 0 0] 78)) :=
  ⟨by rw [World.cell?_alloc_new]; rfl, by rw [World.cell?_alloc_new]; rfl, by simp, by simp, by simp, tou_alloc _ _⟩
theorem FB.later {w W W' : World} (h : FB w W) (hb : Below W.heap.size W W') : FB w W' :=
  ⟨cell_keep hb h.c0, cell_keep hb h.c1, (hb.frozen (p := ⟨w.heap.size, 0, none⟩) h.size).trans h.f0, (hb.frozen (p := ⟨w.heap.size, 1, none⟩) h.size).trans h.f1, Nat.le_trans h.size hb.size, h.below.trans (hb.mono (by have := h.size; omega))⟩
theorem FB.set {w W : World} (h : FB w W) (x y : Value) : ((W.setCell ⟨w.heap.size, 0, none⟩ x).setCell ⟨w.heap.size, 1, none⟩ y).cell? ⟨w.heap.size, 0, none⟩ = some x ∧ ((W.setCell ⟨w.heap.size, 0, none⟩ x).setCell ⟨w.heap.size, 1, none⟩ y).cell? ⟨w.heap.size, 1, none⟩ = some y ∧ Below w.heap.size w ((W.setCell ⟨w.heap.size, 0, none⟩ x).setCell ⟨w.heap.size, 1, none⟩ y) := by
  refine ⟨?_, ?_, (h.below.setCell (p := ⟨w.heap.size, 0, none⟩) (Nat.le_refl _) _).setCell (p := ⟨w.heap.size, 1, none⟩) (Nat.le_refl _) _⟩
  · rw [set_other (addr_ne (by omega)), set_same h.c0]
  · refine set_same (u := .slice none 0 0) ?_
    rw [set_other (addr_ne (by omega)), h.c1]
theorem FB.other {w W : World} (h : FB w W) {D o : Nat} (hD : w.heap.size + 1 ≤ D) (u : Value) : FB w (W.setCell ⟨D, o, none⟩ u) := by
  have e : ∀ o', (⟨D, o, none⟩ : Addr) ≠ ⟨w.heap.size, o', none⟩ := fun o' e => by injection e with e1; omega
  exact ⟨by rw [set_other (e _)]; exact h.c0, by rw [set_other (e _)]; exact h.c1, by rw [World.frozen?_setCell]; exact h.f0, by rw [World.frozen?_setCell]; exact h.f1, by simpa using h.size, h.below.setCell (p := ⟨D, o, none⟩) (by show w.heap.size ≤ D; omega) _⟩
set_option maxHeartbeats 1600000 in
set_option maxRecDepth 100000 in
theorem First_form (w : World) (v : Value) (s : ByteArray) (ps : List Ins) (h : ArgP w v ps) (hl : ps.length ≤ 281474976710656) (hz : ∀ x ∈ ps, x.tree.length ≤ 281474976710656) (hs : s.size ≤ 281474976710656) (hn : ¬ PValid ps ∨ vld s.data.toList = false) :
    Calls Try.prog 54 #[v, .string s] w (SNone w 1) := by
  obtain ⟨r, hr⟩ := pv_bool ps
  have HV := Lib.hid (fun W h => CV_arg W v ps r h hl hz hr)
  have HX := Lib.hid (fun (hx : vld s.data.toList = false) W => Valid_is false s W hs hx)
  have HA := Lib.hid h; have HR := Lib.hid hr; have HN := Lib.hid hn
  obtain ⟨A, cap, rfl⟩ := tou_form h
  have h0 := fb_new w
  clear hl hz h hr hn hs
  go_enter Try.func54, Try.ntmps54
  go_wp2_with fail
  refine (HV.out _ (HA.out.below h0.below)).mono ?_
  rintro e w1 ⟨rfl, hb1⟩
  have h1 := h0.later hb1
  clear hb1 h0
  cases hrb : r with
  | false =>
    clear hrb
    obtain ⟨p0, p1, pb⟩ := h1.set (.int .i64 0) (.slice none 0 0)
    have P0 := Lib.hid p0; have P1 := Lib.hid p1; have PB := Lib.hid pb
    obtain ⟨c0, c1, f0, f1, hs, _⟩ := h1
    clear p0 p1 pb
    go_wp2
    exact bodyPost_ret (v := .tuple #[.agg #[.int .i64 0, .slice none 0 0], .int .i64 1]) (by simp [results, Try.f54, go_sem, P0.out, P1.out]) rfl ⟨rfl, PB.out⟩
  | true =>
    have hx : vld s.data.toList = false := by rcases HN.out with h | h; exact absurd (HR.out.1 hrb) h; exact h
    have HX2 := Lib.hid (HX.out hx)
    clear hrb hx
    go_wp2_with fail
    refine (HX2.out _).mono ?_
    rintro e w2 ⟨rfl, hb2⟩
    have h2 := h1.later hb2
    clear hb2 h1
    obtain ⟨p0, p1, pb⟩ := h2.set (.int .i64 0) (.slice none 0 0)
    have P0 := Lib.hid p0; have P1 := Lib.hid p1; have PB := Lib.hid pb
    obtain ⟨c0, c1, f0, f1, hs, _⟩ := h2
    clear p0 p1 pb
    go_wp2
    exact bodyPost_ret (v := .tuple #[.agg #[.int .i64 0, .slice none 0 0], .int .i64 1]) (by simp [results, Try.f54, go_sem, P0.out, P1.out]) rfl ⟨rfl, PB.out⟩
def FirstOut (w : World) (l : List UInt8) (e : Ending) (w' : World) : Prop := Below w.heap.size w w' ∧ ∃ B, e = .returned (.tuple #[.agg #[.int .i64 0, .slice (some ⟨B, 0, none⟩) 32 32], .int .i64 0]) ∧ w.heap.size ≤ B ∧ StrAt w' B 0 (l :: List.replicate 31 [48])
set_option maxHeartbeats 1600000 in
set_option maxRecDepth 100000 in
theorem First_some (w : World) (v : Value) (s : ByteArray) (ps : List Ins) (h : ArgP w v ps) (hv : PValid ps) (hs : vld s.data.toList = true) :
    Calls Try.prog 54 #[v, .string s] w (FirstOut w s.data.toList) := by
  have hsz := vld_size hs
  have HV := Lib.hid (fun W h => CV_arg W v ps true h (by have := hv.1; omega) (fun x hx => by have := PV_tree_le hv hx; omega) (by simp [hv]))
  have HX := Lib.hid (fun W => Valid_is true s W (by omega) hs)
  have HCL := Lib.hid (fun W => Clone_any s W (by omega))
  have HA := Lib.hid h
  obtain ⟨A, cap, rfl⟩ := tou_form h
  have h0 := fb_new w
  clear h hs hsz hv
  go_enter Try.func54, Try.ntmps54
  go_wp2_with fail
  refine (HV.out _ (HA.out.below h0.below)).mono ?_
  rintro e w1 ⟨rfl, hb1⟩
  have h1 := h0.later hb1
  clear hb1 h0
  go_wp2_with fail
  refine (HX.out _).mono ?_
  rintro e w2 ⟨rfl, hb2⟩
  have h2 := h1.later hb2
  clear hb2 h1
  go_wp2_with fail
  have hal := tou_alloc w2 (.cells #[.string (S [48])] 9)
  refine (repeat_any _ w2.heap.size (by rw [World.cell?_alloc_new]; rfl)).mono ?_
  rintro e w3 ⟨D, rfl, hD, hrow, hfr, hb3⟩
  have h3 := (h2.later hal).later hb3
  have HD : Hid (w.heap.size + 1 ≤ D) := Lib.hid (by have := h2.size; simp at hD; omega)
  have HROW := Lib.hid hrow; have HFR := Lib.hid hfr
  clear hb3 h2 hal hD hrow hfr
  go_wp2_with fail
  refine (HCL.out _).mono ?_
  rintro e w4 ⟨rfl, hb4⟩
  have h4 := h3.later hb4
  have k0 := cell_keep hb4 (HROW.out.2 0 (by omega))
  have k1 := (hb4.frozen (p := ⟨D, 0, none⟩) HROW.out.1).trans HFR.out
  have HROW4 : Hid (D < w4.heap.size ∧ ∀ j, j < 32 → w4.cell? ⟨D, j, none⟩ = some (.string (S [48]))) := Lib.hid ⟨Nat.lt_of_lt_of_le HROW.out.1 hb4.size, fun j hj => by
    have := cell_keep hb4 (HROW.out.2 j hj)
    rw [Nat.zero_add] at this
    rw [this, List.getD, List.getElem?_replicate, if_pos hj]; rfl⟩
  rw [Nat.zero_add] at k0
  have h5 := h4.other HD.out (o := 0) (.string s)
  clear hb4 h3 HROW HFR
  obtain ⟨p0, p1, pb⟩ := h5.set (.int .i64 0) (.slice (some ⟨D, 0, none⟩) 32 32)
  have P0 := Lib.hid p0; have P1 := Lib.hid p1; have PB := Lib.hid pb
  obtain ⟨c0, c1, f0, f1, hs, _⟩ := h5
  have HS5 : Hid (StrAt (((w4.setCell ⟨D, 0, none⟩ (.string s)).setCell ⟨w.heap.size, 0, none⟩ (.int .i64 0)).setCell ⟨w.heap.size, 1, none⟩ (.slice (some ⟨D, 0, none⟩) 32 32)) D 0 (s.data.toList :: List.replicate 31 [48])) := Lib.hid (by
    have e1 : ∀ o j, (⟨w.heap.size, o, none⟩ : Addr) ≠ ⟨D, 0 + j, none⟩ := fun o j e => by injection e with e1; have := HD.out; omega
    refine ⟨by simpa using HROW4.out.1, fun j hj => ?_⟩
    have hj : j < 32 := by simpa using hj
    rw [set_other (e1 _ _), set_other (e1 _ _), Nat.zero_add]
    rcases j with _ | j
    · rw [set_same (HROW4.out.2 0 (by omega))]; simp [List.getD, S]
    · rw [set_other (addr_ne (by omega)), HROW4.out.2 (j + 1) hj, List.getD, List.getElem?_cons_succ, List.getElem?_replicate, if_pos (by omega)]; rfl)
  clear p0 p1 pb h4
  go_wp2
  exact bodyPost_ret (v := .tuple #[.agg #[.int .i64 0, .slice (some ⟨D, 0, none⟩) 32 32], .int .i64 0]) (by simp [results, Try.f54, go_sem, P0.out, P1.out]) rfl ⟨PB.out, D, rfl, by have := HD.out; omega, HS5.out⟩
end Go.Proofs.Ytkpfocgcnehajaa
