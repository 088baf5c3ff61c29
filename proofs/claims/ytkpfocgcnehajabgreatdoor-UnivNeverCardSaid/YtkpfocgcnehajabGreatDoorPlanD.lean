/- What the functions of package univ write: reading, jumps, storing, the next instruction. By an AI agent. -/
import Derived.Test.YtkpfocgcnehajabGreatDoorPlanC
namespace Go.Proofs.YtkpfocgcnehajabGreatDoor
open Go.RowKit Go.Maps Pl

namespace Pl3
def start (s : Pl3) : Pl3 := ((((s.wr (headI 5 0)).wr (tailI 0 0)).wr (consI 0 0 7)).wr (setI 10 [49, 48, 48])).jumpTo [110, 101, 120, 116] 10
def op1 (s : Pl3) : Pl3 := s.wr (moveI 3 1)
def op2 (s : Pl3) : Pl3 := s.read 3 1
def op3 (s : Pl3) : Pl3 := ((((s.wr (headI 9 1)).read 3 9).wr (tailI 1 1)).read 9 1).wr (consI 3 3 9)
def op4 (s : Pl3) : Pl3 := (s.read 3 1).wr (headI 3 3)
def op5 (s : Pl3) : Pl3 := (s.read 3 1).wr (tailI 3 3)
def jumpB1 (s : Pl3) : Pl3 := (s.wr (tailI 1 1)).shift 7 5
def jumpB2 (s : Pl3) : Pl3 := (s.wr (tailI 1 1)).shift 5 7
def storeB1 (s : Pl3) : Pl3 := (s.wr (tailI 4 4)).shift 6 0
def storeB2 (s : Pl3) : Pl3 := s.shift 0 6
def readB (a i : Int) (s : Pl3) : Pl3 := (s.wr (tailI a a)).wr (tailI i i)
def jump (s : Pl3) : Pl3 := (((((((((((s.read 3 4).jumpTo [109, 97, 100, 101] 3).jumpTo [111, 110] 10).place [109, 97, 100, 101]).wr (headI 3 1)).wr (tailI 1 1)).jumpTo [98, 97, 99, 107] 3).rep 1 jumpB1).jumpTo [110, 101, 120, 116] 10).place [98, 97, 99, 107]).rep 1 jumpB2).jumpTo [110, 101, 120, 116] 10
def store (s : Pl3) : Pl3 := ((((s.place [115, 116, 111, 114, 101]).rep 4 storeB1).wr (tailI 0 0)).wr (consI 0 3 0)).rep 6 storeB2
def next (s : Pl3) : Pl3 := ((((s.place [111, 110]).shift 7 5).place [110, 101, 120, 116]).jumpTo [115, 116, 101, 112] 5).wr (headI 0 0)
end Pl3
theorem Ok.shift {n : Nat} {s : Pl3} (h : Ok n s) (t f : Int) : Ok (n + 3) (s.shift t f) := ((h.wr _).wr _).wr _
theorem Ok.rep {n d : Nat} {s : Pl3} {body : Pl3 → Pl3} (h : Ok n s) (a : Int) (hO : ∀ n s, Ok n s → Ok (n + d) (body s)) : Ok (n + d + 4) (s.rep a body) :=
  (((hO _ _ ((h.jumpTo _ _).place _)).place _).jumpTo _ _).mono (by omega)
theorem Ok.readB (a i : Int) : ∀ n s, Ok n s → Ok (n + 2) (Pl3.readB a i s) := fun _ _ h => (h.wr _).wr _
theorem Ok.read {n : Nat} {s : Pl3} (h : Ok n s) (a i : Int) : Ok (n + 8) (s.read a i) := (((h.wr _).rep i (Ok.readB a i)).wr _).mono (by omega)
theorem Ok.jumpB1 : ∀ n s, Ok n s → Ok (n + 4) (Pl3.jumpB1 s) := fun _ _ h => (h.wr _).shift _ _
theorem Ok.jumpB2 : ∀ n s, Ok n s → Ok (n + 4) (Pl3.jumpB2 s) := fun _ _ h => (h.wr _).shift _ _
theorem Ok.storeB1 : ∀ n s, Ok n s → Ok (n + 4) (Pl3.storeB1 s) := fun _ _ h => (h.wr _).shift _ _
theorem Ok.storeB2 : ∀ n s, Ok n s → Ok (n + 3) (Pl3.storeB2 s) := fun _ _ h => h.shift _ _
set_option maxHeartbeats 3200000 in
set_option maxRecDepth 100000 in
theorem k_read {w0 w1 : World} {X mb b3 b4 b5 : Nat} {H : Type} {s : Pl3} (a i : Int) (h3 : BoxP w1 b3 X) (h4 : BoxI w1 b4 a) (h5 : BoxI w1 b5 i) (h : PlanS w0 w1 X mb H s) (hk : Ok 950 s) :
    Calls Tryz.prog 173 #[.pointer (some ⟨b3, 0, none⟩), .pointer (some ⟨b4, 0, none⟩), .pointer (some ⟨b5, 0, none⟩)] w1 (PostS w0 X mb H (Pl3.readB a i s) w1) := by
  have H1 := Lib.hid (h.later (Below.refl w1.heap.size w1).drew)
  have c3 := h3.cell; have c4 := h4.cell
  have P3 := Lib.hid h3; have P5 := Lib.hid h5
  clear h h3 h4 h5
  go_enter Tryz.func173, Tryz.ntmps173
  go_wp2_with fail
  go_still_tail 5, (by kernel_rfl)
  change wpList _ _ _ _ _ w1.drew
  go_wp2_with fail
  refine (c_tail a a H1.out (hk.mono (by omega))).mono ?_
  rintro e w2 ⟨rfl, h, k9⟩
  have K2 : Hid (Kept w1 w2) := Lib.hid k9
  have H2 := Lib.hid (h.later (Below.refl w2.heap.size w2).drew)
  have d3 := (P3.out.kept K2.out).cell; have d5 := (P5.out.kept K2.out).cell
  clear h k9 c3 c4
  go_wp2_with fail
  go_still_tail 5, (by kernel_rfl)
  change wpList _ _ _ _ _ w2.drew
  go_wp2_with fail
  refine (c_tail i i H2.out ((hk.wr _).mono (by omega))).mono ?_
  rintro e w3 ⟨rfl, h, k9⟩
  have K3 : Hid (Kept w1 w3) := Lib.hid (K2.out.trans k9)
  have H3 := Lib.hid h
  clear h k9 d3 d5
  go_wp2
  go_end0
  exact ⟨rfl, H3.out, K3.out⟩
set_option maxHeartbeats 3200000 in
set_option maxRecDepth 100000 in
theorem c_read {w0 w1 : World} {X mb : Nat} {H : Type} {s : Pl3} (a i : Int) (h : PlanS w0 w1 X mb H s) (hk : Ok 800 s) :
    Calls Tryz.prog 126 #[.pointer (some ⟨X, 0, none⟩), .int .i64 a, .int .i64 i] w1 (PostS w0 X mb H (s.read a i) w1) := by
  have a1 := alloc_belowW w1 (.cells #[.pointer (some ⟨X, 0, none⟩)] 140)
  have a2 := alloc_belowW (w1.alloc (.cells #[.pointer (some ⟨X, 0, none⟩)] 140)) (.cells #[.int .i64 a] 3)
  have a3 := alloc_belowW ((w1.alloc (.cells #[.pointer (some ⟨X, 0, none⟩)] 140)).alloc (.cells #[.int .i64 a] 3)) (.cells #[.int .i64 i] 3)
  have p3 : BoxP (w1.alloc (.cells #[.pointer (some ⟨X, 0, none⟩)] 140)) w1.heap.size X := heap_alloc_new w1 _
  have p4 : BoxI ((w1.alloc (.cells #[.pointer (some ⟨X, 0, none⟩)] 140)).alloc (.cells #[.int .i64 a] 3)) (w1.heap.size + 1) a := by
    have e := heap_alloc_new (w1.alloc (.cells #[.pointer (some ⟨X, 0, none⟩)] 140)) (.cells #[.int .i64 a] 3)
    simpa [BoxI] using e
  have p5 : BoxI (((w1.alloc (.cells #[.pointer (some ⟨X, 0, none⟩)] 140)).alloc (.cells #[.int .i64 a] 3)).alloc (.cells #[.int .i64 i] 3)) (w1.heap.size + 2) i := by
    have e := heap_alloc_new ((w1.alloc (.cells #[.pointer (some ⟨X, 0, none⟩)] 140)).alloc (.cells #[.int .i64 a] 3)) (.cells #[.int .i64 i] 3)
    simpa [BoxI] using e
  have P3 := Lib.hid ((p3.kept (.of_below a2)).kept (.of_below a3)); have P4 := Lib.hid (p4.kept (.of_below a3)); have P5 := Lib.hid p5
  have K1 := Lib.hid (((Kept.of_below a1).trans (.of_below a2)).trans (.of_below a3))
  have H1 := Lib.hid (((h.later a1).later a2).later a3)
  have HK := Lib.hid hk
  clear h a1 a2 a3 p3 p4 p5 hk
  go_enter Tryz.func126, Tryz.ntmps126
  go_wp2_with fail
  generalize (((w1.alloc (.cells #[.pointer (some ⟨X, 0, none⟩)] 140)).alloc (.cells #[.int .i64 a] 3)).alloc (.cells #[.int .i64 i] 3)) = w2 at *
  generalize w1.heap.size = b3 at *
  have c3 := P3.out.cell; have c4 := P4.out.cell
  go_still_tail 4, (by kernel_rfl)
  change wpList _ _ _ _ _ w2.drew
  go_wp2_with fail
  refine (c_move a 0 (H1.out.later (Below.refl w2.heap.size w2).drew) (HK.out.mono (by omega))).mono ?_
  rintro e w3 ⟨rfl, h, k9⟩
  have K3 : Hid (Kept w2 w3) := Lib.hid k9
  have H3 := Lib.hid h
  have Q3 := Lib.hid (P3.out.kept K3.out); have Q4 := Lib.hid (P4.out.kept K3.out); have Q5 := Lib.hid (P5.out.kept K3.out)
  have d3 := Q3.out.cell; have d5 := Q5.out.cell
  clear h k9 c3 c4
  go_wp2_with fail
  refine (c_repeat i 173 #[.pointer (some ⟨b3, 0, none⟩), .pointer (some ⟨b3 + 1, 0, none⟩), .pointer (some ⟨b3 + 2, 0, none⟩)] (Pl3.readB a i) 2 H3.out ((HK.out.wr _).mono (by omega)) (by omega) (enters_of Tryz.func173 (by kernel_rfl) rfl) (Ok.readB a i) (fun W s' hW hp ho => k_read a i (Q3.out.kept hW) (Q4.out.kept hW) (Q5.out.kept hW) hp ho)).mono ?_
  rintro e w4 ⟨rfl, h, k9⟩
  have K4 : Hid (Kept w2 w4) := Lib.hid (K3.out.trans k9)
  have H4 := Lib.hid h
  have e3 := (P3.out.kept K4.out).cell; have e4 := (P4.out.kept K4.out).cell
  clear h k9 d3 d5
  go_wp2_with fail
  go_still_tail 5, (by kernel_rfl)
  change wpList _ _ _ _ _ w4.drew
  go_wp2_with fail
  refine (c_head a a (H4.out.later (Below.refl w4.heap.size w4).drew) (((HK.out.wr _).rep i (Ok.readB a i)).mono (by omega))).mono ?_
  rintro e w5 ⟨rfl, h, k9⟩
  have K5 : Hid (Kept w1 w5) := Lib.hid ((K1.out.trans K4.out).trans k9)
  have H5 := Lib.hid h
  clear h k9 e3 e4
  go_wp2
  go_end0
  exact ⟨rfl, H5.out, K5.out⟩
end Go.Proofs.YtkpfocgcnehajabGreatDoor
