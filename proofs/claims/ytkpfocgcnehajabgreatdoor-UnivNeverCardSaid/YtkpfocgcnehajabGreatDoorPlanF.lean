/- What the functions of package univ write: the operations. By an AI agent. -/
import Derived.Test.YtkpfocgcnehajabGreatDoorPlanE
import Derived.Laws.EntriesVeiled
import Derived.LoopN
namespace Go.Proofs.YtkpfocgcnehajabGreatDoor
open Go.RowKit Go.Maps Pl
def opsV (b : Nat) : Value := .agg #[.func (.func 166) #[] #[.pointer (some ⟨b, 0, none⟩)], .func (.func 168) #[] #[.pointer (some ⟨b, 0, none⟩)], .func (.func 169) #[] #[.pointer (some ⟨b, 0, none⟩)], .func (.func 170) #[] #[.pointer (some ⟨b, 0, none⟩)], .func (.func 171) #[] #[.pointer (some ⟨b, 0, none⟩)]]
def OpsOut (w0 w1 : World) (X mb : Nat) (H : Type) (s : Pl3) (e : Ending) (w' : World) : Prop := ∃ b, e = .returned (opsV b) ∧ BoxP w' b X ∧ PlanS w0 w' X mb H s ∧ Kept w1 w'
set_option maxHeartbeats 3200000 in
set_option maxRecDepth 100000 in
theorem c_operations {w0 w1 : World} {X mb : Nat} {H : Type} {s : Pl3} (h : PlanS w0 w1 X mb H s) :
    Calls Tryz.prog 124 #[.pointer (some ⟨X, 0, none⟩)] w1 (OpsOut w0 w1 X mb H s) := by
  have H1 := Lib.hid h
  clear h
  have hm : ((w1.alloc (.cells #[.pointer (some ⟨X, 0, none⟩)] 140)).alloc (.cells #[.func (.func 166) #[] #[.pointer (some ⟨w1.heap.size, 0, none⟩)], .func (.func 168) #[] #[.pointer (some ⟨w1.heap.size, 0, none⟩)], .func (.func 169) #[] #[.pointer (some ⟨w1.heap.size, 0, none⟩)], .func (.func 170) #[] #[.pointer (some ⟨w1.heap.size, 0, none⟩)], .func (.func 171) #[] #[.pointer (some ⟨w1.heap.size, 0, none⟩)]] 189)).heap[w1.heap.size + 1]? = some (.cells #[.func (.func 166) #[] #[.pointer (some ⟨w1.heap.size, 0, none⟩)], .func (.func 168) #[] #[.pointer (some ⟨w1.heap.size, 0, none⟩)], .func (.func 169) #[] #[.pointer (some ⟨w1.heap.size, 0, none⟩)], .func (.func 170) #[] #[.pointer (some ⟨w1.heap.size, 0, none⟩)], .func (.func 171) #[] #[.pointer (some ⟨w1.heap.size, 0, none⟩)]] 189 (0, 0)) := by
    have e := heap_alloc_new (w1.alloc (.cells #[.pointer (some ⟨X, 0, none⟩)] 140)) (.cells #[.func (.func 166) #[] #[.pointer (some ⟨w1.heap.size, 0, none⟩)], .func (.func 168) #[] #[.pointer (some ⟨w1.heap.size, 0, none⟩)], .func (.func 169) #[] #[.pointer (some ⟨w1.heap.size, 0, none⟩)], .func (.func 170) #[] #[.pointer (some ⟨w1.heap.size, 0, none⟩)], .func (.func 171) #[] #[.pointer (some ⟨w1.heap.size, 0, none⟩)]] 189)
    simpa using e
  have HP := Lib.hid (BoxP.kept (w := w1.alloc (.cells #[.pointer (some ⟨X, 0, none⟩)] 140)) (w' := ((w1.alloc (.cells #[.pointer (some ⟨X, 0, none⟩)] 140)).alloc (.cells #[.func (.func 166) #[] #[.pointer (some ⟨w1.heap.size, 0, none⟩)], .func (.func 168) #[] #[.pointer (some ⟨w1.heap.size, 0, none⟩)], .func (.func 169) #[] #[.pointer (some ⟨w1.heap.size, 0, none⟩)], .func (.func 170) #[] #[.pointer (some ⟨w1.heap.size, 0, none⟩)], .func (.func 171) #[] #[.pointer (some ⟨w1.heap.size, 0, none⟩)]] 189))) (heap_alloc_new w1 _) (.of_below (alloc_belowW _ _)))
  have HB : Hid (Below w1.heap.size w1 ((w1.alloc (.cells #[.pointer (some ⟨X, 0, none⟩)] 140)).alloc (.cells #[.func (.func 166) #[] #[.pointer (some ⟨w1.heap.size, 0, none⟩)], .func (.func 168) #[] #[.pointer (some ⟨w1.heap.size, 0, none⟩)], .func (.func 169) #[] #[.pointer (some ⟨w1.heap.size, 0, none⟩)], .func (.func 170) #[] #[.pointer (some ⟨w1.heap.size, 0, none⟩)], .func (.func 171) #[] #[.pointer (some ⟨w1.heap.size, 0, none⟩)]] 189))) := Lib.hid (bstep (alloc_belowW _ _) (alloc_belowW _ _))
  have R0 := Lib.hid (Lib.cell_of_heap hm 0)
  have R1 := Lib.hid (Lib.cell_of_heap hm 1)
  have R2 := Lib.hid (Lib.cell_of_heap hm 2)
  have R3 := Lib.hid (Lib.cell_of_heap hm 3)
  have R4 := Lib.hid (Lib.cell_of_heap hm 4)
  clear hm
  go_enter Tryz.func124, Tryz.ntmps124
  go_wp2
  exact bodyPost_ret (v := opsV w1.heap.size) (by simp [opsV, results, Tryz.f124, go_sem, R0.out, R1.out, R2.out, R3.out, R4.out]) rfl ⟨w1.heap.size, rfl, HP.out, H1.out.later HB.out, .of_below HB.out⟩
namespace Pl3
def notN (n : Nat) : List UInt8 := [110, 111, 116, 32] ++ dg3 n
def opsStep (n : Nat) (f : Pl3 → Pl3) (s : Pl3) : Pl3 := (((f (s.jumpTo (notN n) 8)).jumpTo [115, 116, 111, 114, 101] 10).place (notN n)).wr (tailI 8 8)
def opsHead (s : Pl3) : Pl3 := (((((s.place [115, 116, 101, 112]).wr (headI 2 5)).wr (headI 8 2)).wr (tailI 1 2)).wr (headI 4 1)).wr (tailI 1 1)
def operations (s : Pl3) : Pl3 := opsStep 4 op5 (opsStep 3 op4 (opsStep 2 op3 (opsStep 1 op2 (opsStep 0 op1 (opsHead s)))))
end Pl3
theorem Ok.opsHead {n : Nat} {s : Pl3} (h : Ok n s) : Ok (n + 6) s.opsHead := (((((h.place _).wr _).wr _).wr _).wr _).wr _
theorem Ok.opsStep {n d : Nat} {s : Pl3} {f : Pl3 → Pl3} (h : Ok n s) (k : Nat) (hf : ∀ n s, Ok n s → Ok (n + d) (f s)) : Ok (n + d + 4) (Pl3.opsStep k f s) := ((((hf _ _ (h.jumpTo _ _)).jumpTo _ _).place _).wr _).mono (by omega)
theorem Ok.op1 : ∀ n s, Ok n s → Ok (n + 1) (Pl3.op1 s) := fun _ _ h => h.wr _
theorem Ok.op2 : ∀ n s, Ok n s → Ok (n + 8) (Pl3.op2 s) := fun _ _ h => h.read _ _
theorem Ok.op3 : ∀ n s, Ok n s → Ok (n + 19) (Pl3.op3 s) := fun _ _ h => (((((h.wr _).read _ _).wr _).read _ _).wr _).mono (by omega)
theorem Ok.op4 : ∀ n s, Ok n s → Ok (n + 9) (Pl3.op4 s) := fun _ _ h => ((h.read _ _).wr _).mono (by omega)
theorem Ok.op5 : ∀ n s, Ok n s → Ok (n + 9) (Pl3.op5 s) := fun _ _ h => ((h.read _ _).wr _).mono (by omega)
theorem notN_len (n : Nat) : (Pl3.notN n).length ≤ 1000000 := by have := dg3_len n; simp [Pl3.notN]; omega
theorem itoa_lit (n : Nat) (m : Int) (hm : m = (n : Int)) (w : World) (hn : n < 1000) (hE : TabE w) : Calls Tryz.prog 125 #[.int .i64 m] w fun e w' => e = .returned (.string (S (dg3 n))) ∧ Below w.heap.size w w' := by
  subst hm; exact itoa_p n w hn hE
set_option maxHeartbeats 12800000 in
set_option maxRecDepth 100000 in
theorem c_operationsW {w0 w1 : World} {X mb : Nat} {H : Type} {s : Pl3} (h : PlanS w0 w1 X mb H s) (hk : Ok 500 s) :
    Calls Tryz.prog 84 #[.pointer (some ⟨X, 0, none⟩)] w1 (PostS w0 X mb H s.operations w1) := by
  have H1 := Lib.hid h; have HK := Lib.hid hk
  have d0 : ¬ 9223372036854775807 < 4 + (dg3 0).length := by have := dg3_len 0; omega
  have D0 := Lib.hid (S_app_mk [110, 111, 116, 32] (dg3 0))
  have d1 : ¬ 9223372036854775807 < 4 + (dg3 1).length := by have := dg3_len 1; omega
  have D1 := Lib.hid (S_app_mk [110, 111, 116, 32] (dg3 1))
  have d2 : ¬ 9223372036854775807 < 4 + (dg3 2).length := by have := dg3_len 2; omega
  have D2 := Lib.hid (S_app_mk [110, 111, 116, 32] (dg3 2))
  have d3 : ¬ 9223372036854775807 < 4 + (dg3 3).length := by have := dg3_len 3; omega
  have D3 := Lib.hid (S_app_mk [110, 111, 116, 32] (dg3 3))
  have d4 : ¬ 9223372036854775807 < 4 + (dg3 4).length := by have := dg3_len 4; omega
  have D4 := Lib.hid (S_app_mk [110, 111, 116, 32] (dg3 4))
  clear h hk
  go_enter Tryz.func84, Tryz.ntmps84
  go_wp2_with fail
  refine (c_place [115, 116, 101, 112] (by decide) H1.out ((HK.out).mono (by omega))).mono ?_
  rintro e w2 ⟨rfl, h, k9⟩
  have H2 := Lib.hid h; have K2 : Hid (Kept w1 w2) := Lib.hid (k9)
  clear h k9 H1
  go_wp2_with fail
  refine (c_head 2 5 H2.out (((HK.out.place _)).mono (by omega))).mono ?_
  rintro e w3 ⟨rfl, h, k9⟩
  have H3 := Lib.hid h; have K3 : Hid (Kept w1 w3) := Lib.hid (K2.out.trans k9)
  clear h k9 H2 K2
  go_wp2_with fail
  refine (c_head 8 2 H3.out ((((HK.out.place _).wr _)).mono (by omega))).mono ?_
  rintro e w4 ⟨rfl, h, k9⟩
  have H4 := Lib.hid h; have K4 : Hid (Kept w1 w4) := Lib.hid (K3.out.trans k9)
  clear h k9 H3 K3
  go_wp2_with fail
  refine (c_tail 1 2 H4.out (((((HK.out.place _).wr _).wr _)).mono (by omega))).mono ?_
  rintro e w5 ⟨rfl, h, k9⟩
  have H5 := Lib.hid h; have K5 : Hid (Kept w1 w5) := Lib.hid (K4.out.trans k9)
  clear h k9 H4 K4
  go_wp2_with fail
  refine (c_head 4 1 H5.out ((((((HK.out.place _).wr _).wr _).wr _)).mono (by omega))).mono ?_
  rintro e w6 ⟨rfl, h, k9⟩
  have H6 := Lib.hid h; have K6 : Hid (Kept w1 w6) := Lib.hid (K5.out.trans k9)
  clear h k9 H5 K5
  go_wp2_with fail
  refine (c_tail 1 1 H6.out (((((((HK.out.place _).wr _).wr _).wr _).wr _)).mono (by omega))).mono ?_
  rintro e w7 ⟨rfl, h, k9⟩
  have H7 := Lib.hid h; have K7 : Hid (Kept w1 w7) := Lib.hid (K6.out.trans k9)
  clear h k9 H6 K6
  go_wp2_with fail
  refine (c_operations H7.out).mono ?_
  rintro e w8 ⟨b, rfl, hb, h, k9⟩
  have H8 := Lib.hid h; have P8 := Lib.hid hb; have K8 : Hid (Kept w1 w8) := Lib.hid (K7.out.trans k9)
  clear h hb k9 H7 K7
  unfold opsV
  go_wp2_with fail
  have ix0 : ∀ w : World, (Instr.index 189 (.agg #[.func (.func 166) #[] #[.pointer (some ⟨b, 0, none⟩)], .func (.func 168) #[] #[.pointer (some ⟨b, 0, none⟩)], .func (.func 169) #[] #[.pointer (some ⟨b, 0, none⟩)], .func (.func 170) #[] #[.pointer (some ⟨b, 0, none⟩)], .func (.func 171) #[] #[.pointer (some ⟨b, 0, none⟩)]]) (.int .i64 0)).run Tryz.prog w = .ok (.func (.func 166) #[] #[.pointer (some ⟨b, 0, none⟩)]) w := fun w => by kernel_rfl
  have ix1 : ∀ w : World, (Instr.index 189 (.agg #[.func (.func 166) #[] #[.pointer (some ⟨b, 0, none⟩)], .func (.func 168) #[] #[.pointer (some ⟨b, 0, none⟩)], .func (.func 169) #[] #[.pointer (some ⟨b, 0, none⟩)], .func (.func 170) #[] #[.pointer (some ⟨b, 0, none⟩)], .func (.func 171) #[] #[.pointer (some ⟨b, 0, none⟩)]]) (.int .i64 1)).run Tryz.prog w = .ok (.func (.func 168) #[] #[.pointer (some ⟨b, 0, none⟩)]) w := fun w => by kernel_rfl
  have ix2 : ∀ w : World, (Instr.index 189 (.agg #[.func (.func 166) #[] #[.pointer (some ⟨b, 0, none⟩)], .func (.func 168) #[] #[.pointer (some ⟨b, 0, none⟩)], .func (.func 169) #[] #[.pointer (some ⟨b, 0, none⟩)], .func (.func 170) #[] #[.pointer (some ⟨b, 0, none⟩)], .func (.func 171) #[] #[.pointer (some ⟨b, 0, none⟩)]]) (.int .i64 2)).run Tryz.prog w = .ok (.func (.func 169) #[] #[.pointer (some ⟨b, 0, none⟩)]) w := fun w => by kernel_rfl
  have ix3 : ∀ w : World, (Instr.index 189 (.agg #[.func (.func 166) #[] #[.pointer (some ⟨b, 0, none⟩)], .func (.func 168) #[] #[.pointer (some ⟨b, 0, none⟩)], .func (.func 169) #[] #[.pointer (some ⟨b, 0, none⟩)], .func (.func 170) #[] #[.pointer (some ⟨b, 0, none⟩)], .func (.func 171) #[] #[.pointer (some ⟨b, 0, none⟩)]]) (.int .i64 3)).run Tryz.prog w = .ok (.func (.func 170) #[] #[.pointer (some ⟨b, 0, none⟩)]) w := fun w => by kernel_rfl
  have ix4 : ∀ w : World, (Instr.index 189 (.agg #[.func (.func 166) #[] #[.pointer (some ⟨b, 0, none⟩)], .func (.func 168) #[] #[.pointer (some ⟨b, 0, none⟩)], .func (.func 169) #[] #[.pointer (some ⟨b, 0, none⟩)], .func (.func 170) #[] #[.pointer (some ⟨b, 0, none⟩)], .func (.func 171) #[] #[.pointer (some ⟨b, 0, none⟩)]]) (.int .i64 4)).run Tryz.prog w = .ok (.func (.func 171) #[] #[.pointer (some ⟨b, 0, none⟩)]) w := fun w => by kernel_rfl
  refine wp_loop_rounds 6 ?_
  have O8 : Hid (Ok 506 s.opsHead) := Lib.hid HK.out.opsHead
  rw [rounds_succ]
  go_wp2_with fail
  refine (itoa_lit 0 0 rfl _ (by decide) (H8.out.tab.below H8.out.base)).mono ?_
  rintro e w9 ⟨rfl, hb⟩
  have H9 := Lib.hid (H8.out.later hb); have K9 : Hid (Kept w1 w9) := Lib.hid (K8.out.trans (.of_below hb)); have P9 := Lib.hid (P8.out.kept (.of_below hb))
  clear hb H8 K8 P8
  go_wp2_with fail
  have hc := c_jump (Pl3.notN 0) 8 H9.out (O8.out.mono (by omega))
  rw [show S (Pl3.notN 0) = _ from D0.out.symm] at hc
  refine hc.mono ?_
  rintro e w10 ⟨rfl, h, k9⟩
  have H10 := Lib.hid h; have K10 : Hid (Kept w1 w10) := Lib.hid (K9.out.trans k9); have P10 := Lib.hid (P9.out.kept k9)
  clear h k9 hc H9 K9 P9
  go_wp2_with fail
  refine (k_op1 P10.out H10.out ((O8.out.jumpTo _ _).mono (by omega))).mono ?_
  rintro e w11 ⟨rfl, h, k9⟩
  have H11 := Lib.hid h; have K11 : Hid (Kept w1 w11) := Lib.hid (K10.out.trans k9); have P11 := Lib.hid (P10.out.kept k9)
  clear h k9 H10 K10 P10
  go_wp2_with fail
  refine (c_jump [115, 116, 111, 114, 101] 10 H11.out ((Ok.op1 _ _ (O8.out.jumpTo _ _)).mono (by omega))).mono ?_
  rintro e w12 ⟨rfl, h, k9⟩
  have H12 := Lib.hid h; have K12 : Hid (Kept w1 w12) := Lib.hid (K11.out.trans k9); have P12 := Lib.hid (P11.out.kept k9)
  clear h k9 H11 K11 P11
  go_wp2_with fail
  have hc := c_place (Pl3.notN 0) (notN_len 0) H12.out (((Ok.op1 _ _ (O8.out.jumpTo _ _)).jumpTo _ _).mono (by omega))
  rw [show S (Pl3.notN 0) = _ from D0.out.symm] at hc
  refine hc.mono ?_
  rintro e w13 ⟨rfl, h, k9⟩
  have H13 := Lib.hid h; have K13 : Hid (Kept w1 w13) := Lib.hid (K12.out.trans k9); have P13 := Lib.hid (P12.out.kept k9)
  clear h k9 hc H12 K12 P12
  go_wp2_with fail
  refine (c_tail 8 8 H13.out ((((Ok.op1 _ _ (O8.out.jumpTo _ _)).jumpTo _ _).place _).mono (by omega))).mono ?_
  rintro e w14 ⟨rfl, h, k9⟩
  have H14 : Hid (PlanS w0 w14 X mb H (Pl3.opsStep 0 Pl3.op1 (s.opsHead))) := Lib.hid h; have K14 : Hid (Kept w1 w14) := Lib.hid (K13.out.trans k9); have P14 := Lib.hid (P13.out.kept k9)
  have O14 : Hid (Ok 511 (Pl3.opsStep 0 Pl3.op1 (s.opsHead))) := Lib.hid (O8.out.opsStep 0 Ok.op1)
  clear h k9 H13 K13 P13 O8
  go_wp2_with fail
  rw [rounds_succ]
  go_wp2_with fail
  refine (itoa_lit 1 1 rfl _ (by decide) (H14.out.tab.below H14.out.base)).mono ?_
  rintro e w15 ⟨rfl, hb⟩
  have H15 := Lib.hid (H14.out.later hb); have K15 : Hid (Kept w1 w15) := Lib.hid (K14.out.trans (.of_below hb)); have P15 := Lib.hid (P14.out.kept (.of_below hb))
  clear hb H14 K14 P14
  go_wp2_with fail
  have hc := c_jump (Pl3.notN 1) 8 H15.out (O14.out.mono (by omega))
  rw [show S (Pl3.notN 1) = _ from D1.out.symm] at hc
  refine hc.mono ?_
  rintro e w16 ⟨rfl, h, k9⟩
  have H16 := Lib.hid h; have K16 : Hid (Kept w1 w16) := Lib.hid (K15.out.trans k9); have P16 := Lib.hid (P15.out.kept k9)
  clear h k9 hc H15 K15 P15
  go_wp2_with fail
  refine (k_op2 P16.out H16.out ((O14.out.jumpTo _ _).mono (by omega))).mono ?_
  rintro e w17 ⟨rfl, h, k9⟩
  have H17 := Lib.hid h; have K17 : Hid (Kept w1 w17) := Lib.hid (K16.out.trans k9); have P17 := Lib.hid (P16.out.kept k9)
  clear h k9 H16 K16 P16
  go_wp2_with fail
  refine (c_jump [115, 116, 111, 114, 101] 10 H17.out ((Ok.op2 _ _ (O14.out.jumpTo _ _)).mono (by omega))).mono ?_
  rintro e w18 ⟨rfl, h, k9⟩
  have H18 := Lib.hid h; have K18 : Hid (Kept w1 w18) := Lib.hid (K17.out.trans k9); have P18 := Lib.hid (P17.out.kept k9)
  clear h k9 H17 K17 P17
  go_wp2_with fail
  have hc := c_place (Pl3.notN 1) (notN_len 1) H18.out (((Ok.op2 _ _ (O14.out.jumpTo _ _)).jumpTo _ _).mono (by omega))
  rw [show S (Pl3.notN 1) = _ from D1.out.symm] at hc
  refine hc.mono ?_
  rintro e w19 ⟨rfl, h, k9⟩
  have H19 := Lib.hid h; have K19 : Hid (Kept w1 w19) := Lib.hid (K18.out.trans k9); have P19 := Lib.hid (P18.out.kept k9)
  clear h k9 hc H18 K18 P18
  go_wp2_with fail
  refine (c_tail 8 8 H19.out ((((Ok.op2 _ _ (O14.out.jumpTo _ _)).jumpTo _ _).place _).mono (by omega))).mono ?_
  rintro e w20 ⟨rfl, h, k9⟩
  have H20 : Hid (PlanS w0 w20 X mb H (Pl3.opsStep 1 Pl3.op2 (Pl3.opsStep 0 Pl3.op1 (s.opsHead)))) := Lib.hid h; have K20 : Hid (Kept w1 w20) := Lib.hid (K19.out.trans k9); have P20 := Lib.hid (P19.out.kept k9)
  have O20 : Hid (Ok 523 (Pl3.opsStep 1 Pl3.op2 (Pl3.opsStep 0 Pl3.op1 (s.opsHead)))) := Lib.hid (O14.out.opsStep 1 Ok.op2)
  clear h k9 H19 K19 P19 O14
  go_wp2_with fail
  rw [rounds_succ]
  go_wp2_with fail
  refine (itoa_lit 2 2 rfl _ (by decide) (H20.out.tab.below H20.out.base)).mono ?_
  rintro e w21 ⟨rfl, hb⟩
  have H21 := Lib.hid (H20.out.later hb); have K21 : Hid (Kept w1 w21) := Lib.hid (K20.out.trans (.of_below hb)); have P21 := Lib.hid (P20.out.kept (.of_below hb))
  clear hb H20 K20 P20
  go_wp2_with fail
  have hc := c_jump (Pl3.notN 2) 8 H21.out (O20.out.mono (by omega))
  rw [show S (Pl3.notN 2) = _ from D2.out.symm] at hc
  refine hc.mono ?_
  rintro e w22 ⟨rfl, h, k9⟩
  have H22 := Lib.hid h; have K22 : Hid (Kept w1 w22) := Lib.hid (K21.out.trans k9); have P22 := Lib.hid (P21.out.kept k9)
  clear h k9 hc H21 K21 P21
  go_wp2_with fail
  refine (k_op3 P22.out H22.out ((O20.out.jumpTo _ _).mono (by omega))).mono ?_
  rintro e w23 ⟨rfl, h, k9⟩
  have H23 := Lib.hid h; have K23 : Hid (Kept w1 w23) := Lib.hid (K22.out.trans k9); have P23 := Lib.hid (P22.out.kept k9)
  clear h k9 H22 K22 P22
  go_wp2_with fail
  refine (c_jump [115, 116, 111, 114, 101] 10 H23.out ((Ok.op3 _ _ (O20.out.jumpTo _ _)).mono (by omega))).mono ?_
  rintro e w24 ⟨rfl, h, k9⟩
  have H24 := Lib.hid h; have K24 : Hid (Kept w1 w24) := Lib.hid (K23.out.trans k9); have P24 := Lib.hid (P23.out.kept k9)
  clear h k9 H23 K23 P23
  go_wp2_with fail
  have hc := c_place (Pl3.notN 2) (notN_len 2) H24.out (((Ok.op3 _ _ (O20.out.jumpTo _ _)).jumpTo _ _).mono (by omega))
  rw [show S (Pl3.notN 2) = _ from D2.out.symm] at hc
  refine hc.mono ?_
  rintro e w25 ⟨rfl, h, k9⟩
  have H25 := Lib.hid h; have K25 : Hid (Kept w1 w25) := Lib.hid (K24.out.trans k9); have P25 := Lib.hid (P24.out.kept k9)
  clear h k9 hc H24 K24 P24
  go_wp2_with fail
  refine (c_tail 8 8 H25.out ((((Ok.op3 _ _ (O20.out.jumpTo _ _)).jumpTo _ _).place _).mono (by omega))).mono ?_
  rintro e w26 ⟨rfl, h, k9⟩
  have H26 : Hid (PlanS w0 w26 X mb H (Pl3.opsStep 2 Pl3.op3 (Pl3.opsStep 1 Pl3.op2 (Pl3.opsStep 0 Pl3.op1 (s.opsHead))))) := Lib.hid h; have K26 : Hid (Kept w1 w26) := Lib.hid (K25.out.trans k9); have P26 := Lib.hid (P25.out.kept k9)
  have O26 : Hid (Ok 546 (Pl3.opsStep 2 Pl3.op3 (Pl3.opsStep 1 Pl3.op2 (Pl3.opsStep 0 Pl3.op1 (s.opsHead))))) := Lib.hid (O20.out.opsStep 2 Ok.op3)
  clear h k9 H25 K25 P25 O20
  go_wp2_with fail
  rw [rounds_succ]
  go_wp2_with fail
  refine (itoa_lit 3 3 rfl _ (by decide) (H26.out.tab.below H26.out.base)).mono ?_
  rintro e w27 ⟨rfl, hb⟩
  have H27 := Lib.hid (H26.out.later hb); have K27 : Hid (Kept w1 w27) := Lib.hid (K26.out.trans (.of_below hb)); have P27 := Lib.hid (P26.out.kept (.of_below hb))
  clear hb H26 K26 P26
  go_wp2_with fail
  have hc := c_jump (Pl3.notN 3) 8 H27.out (O26.out.mono (by omega))
  rw [show S (Pl3.notN 3) = _ from D3.out.symm] at hc
  refine hc.mono ?_
  rintro e w28 ⟨rfl, h, k9⟩
  have H28 := Lib.hid h; have K28 : Hid (Kept w1 w28) := Lib.hid (K27.out.trans k9); have P28 := Lib.hid (P27.out.kept k9)
  clear h k9 hc H27 K27 P27
  go_wp2_with fail
  refine (k_op4 P28.out H28.out ((O26.out.jumpTo _ _).mono (by omega))).mono ?_
  rintro e w29 ⟨rfl, h, k9⟩
  have H29 := Lib.hid h; have K29 : Hid (Kept w1 w29) := Lib.hid (K28.out.trans k9); have P29 := Lib.hid (P28.out.kept k9)
  clear h k9 H28 K28 P28
  go_wp2_with fail
  refine (c_jump [115, 116, 111, 114, 101] 10 H29.out ((Ok.op4 _ _ (O26.out.jumpTo _ _)).mono (by omega))).mono ?_
  rintro e w30 ⟨rfl, h, k9⟩
  have H30 := Lib.hid h; have K30 : Hid (Kept w1 w30) := Lib.hid (K29.out.trans k9); have P30 := Lib.hid (P29.out.kept k9)
  clear h k9 H29 K29 P29
  go_wp2_with fail
  have hc := c_place (Pl3.notN 3) (notN_len 3) H30.out (((Ok.op4 _ _ (O26.out.jumpTo _ _)).jumpTo _ _).mono (by omega))
  rw [show S (Pl3.notN 3) = _ from D3.out.symm] at hc
  refine hc.mono ?_
  rintro e w31 ⟨rfl, h, k9⟩
  have H31 := Lib.hid h; have K31 : Hid (Kept w1 w31) := Lib.hid (K30.out.trans k9); have P31 := Lib.hid (P30.out.kept k9)
  clear h k9 hc H30 K30 P30
  go_wp2_with fail
  refine (c_tail 8 8 H31.out ((((Ok.op4 _ _ (O26.out.jumpTo _ _)).jumpTo _ _).place _).mono (by omega))).mono ?_
  rintro e w32 ⟨rfl, h, k9⟩
  have H32 : Hid (PlanS w0 w32 X mb H (Pl3.opsStep 3 Pl3.op4 (Pl3.opsStep 2 Pl3.op3 (Pl3.opsStep 1 Pl3.op2 (Pl3.opsStep 0 Pl3.op1 (s.opsHead)))))) := Lib.hid h; have K32 : Hid (Kept w1 w32) := Lib.hid (K31.out.trans k9); have P32 := Lib.hid (P31.out.kept k9)
  have O32 : Hid (Ok 559 (Pl3.opsStep 3 Pl3.op4 (Pl3.opsStep 2 Pl3.op3 (Pl3.opsStep 1 Pl3.op2 (Pl3.opsStep 0 Pl3.op1 (s.opsHead)))))) := Lib.hid (O26.out.opsStep 3 Ok.op4)
  clear h k9 H31 K31 P31 O26
  go_wp2_with fail
  rw [rounds_succ]
  go_wp2_with fail
  refine (itoa_lit 4 4 rfl _ (by decide) (H32.out.tab.below H32.out.base)).mono ?_
  rintro e w33 ⟨rfl, hb⟩
  have H33 := Lib.hid (H32.out.later hb); have K33 : Hid (Kept w1 w33) := Lib.hid (K32.out.trans (.of_below hb)); have P33 := Lib.hid (P32.out.kept (.of_below hb))
  clear hb H32 K32 P32
  go_wp2_with fail
  have hc := c_jump (Pl3.notN 4) 8 H33.out (O32.out.mono (by omega))
  rw [show S (Pl3.notN 4) = _ from D4.out.symm] at hc
  refine hc.mono ?_
  rintro e w34 ⟨rfl, h, k9⟩
  have H34 := Lib.hid h; have K34 : Hid (Kept w1 w34) := Lib.hid (K33.out.trans k9); have P34 := Lib.hid (P33.out.kept k9)
  clear h k9 hc H33 K33 P33
  go_wp2_with fail
  refine (k_op5 P34.out H34.out ((O32.out.jumpTo _ _).mono (by omega))).mono ?_
  rintro e w35 ⟨rfl, h, k9⟩
  have H35 := Lib.hid h; have K35 : Hid (Kept w1 w35) := Lib.hid (K34.out.trans k9); have P35 := Lib.hid (P34.out.kept k9)
  clear h k9 H34 K34 P34
  go_wp2_with fail
  refine (c_jump [115, 116, 111, 114, 101] 10 H35.out ((Ok.op5 _ _ (O32.out.jumpTo _ _)).mono (by omega))).mono ?_
  rintro e w36 ⟨rfl, h, k9⟩
  have H36 := Lib.hid h; have K36 : Hid (Kept w1 w36) := Lib.hid (K35.out.trans k9); have P36 := Lib.hid (P35.out.kept k9)
  clear h k9 H35 K35 P35
  go_wp2_with fail
  have hc := c_place (Pl3.notN 4) (notN_len 4) H36.out (((Ok.op5 _ _ (O32.out.jumpTo _ _)).jumpTo _ _).mono (by omega))
  rw [show S (Pl3.notN 4) = _ from D4.out.symm] at hc
  refine hc.mono ?_
  rintro e w37 ⟨rfl, h, k9⟩
  have H37 := Lib.hid h; have K37 : Hid (Kept w1 w37) := Lib.hid (K36.out.trans k9); have P37 := Lib.hid (P36.out.kept k9)
  clear h k9 hc H36 K36 P36
  go_wp2_with fail
  refine (c_tail 8 8 H37.out ((((Ok.op5 _ _ (O32.out.jumpTo _ _)).jumpTo _ _).place _).mono (by omega))).mono ?_
  rintro e w38 ⟨rfl, h, k9⟩
  have H38 : Hid (PlanS w0 w38 X mb H (Pl3.opsStep 4 Pl3.op5 (Pl3.opsStep 3 Pl3.op4 (Pl3.opsStep 2 Pl3.op3 (Pl3.opsStep 1 Pl3.op2 (Pl3.opsStep 0 Pl3.op1 (s.opsHead))))))) := Lib.hid h; have K38 : Hid (Kept w1 w38) := Lib.hid (K37.out.trans k9); have P38 := Lib.hid (P37.out.kept k9)
  have O38 : Hid (Ok 572 (Pl3.opsStep 4 Pl3.op5 (Pl3.opsStep 3 Pl3.op4 (Pl3.opsStep 2 Pl3.op3 (Pl3.opsStep 1 Pl3.op2 (Pl3.opsStep 0 Pl3.op1 (s.opsHead))))))) := Lib.hid (O32.out.opsStep 4 Ok.op5)
  clear h k9 H37 K37 P37 O32
  go_wp2_with fail
  rw [rounds_succ]
  go_wp2
  go_end0
  exact ⟨rfl, H38.out, K38.out⟩
end Go.Proofs.YtkpfocgcnehajabGreatDoor
