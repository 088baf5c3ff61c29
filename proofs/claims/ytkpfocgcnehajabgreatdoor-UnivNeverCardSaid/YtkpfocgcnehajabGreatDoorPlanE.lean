/- What the functions of package univ write: rows of calls. By an AI agent. -/
import Derived.Test.YtkpfocgcnehajabGreatDoorPlanD
namespace Go.Proofs.YtkpfocgcnehajabGreatDoor
open Go.RowKit Go.Maps Pl

set_option maxHeartbeats 3200000 in
set_option maxRecDepth 100000 in
theorem k_op1 {w0 w1 : World} {X mb : Nat} {H : Type} {s : Pl3} {b : Nat} (hb : BoxP w1 b X) (h : PlanS w0 w1 X mb H s) (hk : Ok 900 s) :
    Calls Tryz.prog 166 #[.pointer (some ⟨b, 0, none⟩)] w1 (PostS w0 X mb H (s.op1) w1) := by
  have P := Lib.hid hb; have K1 := Lib.hid (Kept.refl w1); have H1 := Lib.hid h
  have c := hb.cell
  have HK := Lib.hid hk
  clear h hb hk
  go_enter Tryz.func166, Tryz.ntmps166
  go_wp2_with fail
  refine (c_move 3 1 H1.out ((HK.out).mono (by omega))).mono ?_
  rintro e w2 ⟨rfl, h, k9⟩
  have H2 := Lib.hid h; have K2 := Lib.hid (K1.out.trans k9)
  clear c
  have c := (P.out.kept K2.out).cell
  clear h k9 H1 K1
  go_wp2
  go_end0
  exact ⟨rfl, H2.out, K2.out⟩
set_option maxHeartbeats 3200000 in
set_option maxRecDepth 100000 in
theorem k_op2 {w0 w1 : World} {X mb : Nat} {H : Type} {s : Pl3} {b : Nat} (hb : BoxP w1 b X) (h : PlanS w0 w1 X mb H s) (hk : Ok 780 s) :
    Calls Tryz.prog 168 #[.pointer (some ⟨b, 0, none⟩)] w1 (PostS w0 X mb H (s.op2) w1) := by
  have P := Lib.hid hb; have K1 := Lib.hid (Kept.refl w1); have H1 := Lib.hid h
  have c := hb.cell
  have HK := Lib.hid hk
  clear h hb hk
  go_enter Tryz.func168, Tryz.ntmps168
  go_wp2_with fail
  refine (c_read 3 1 H1.out ((HK.out).mono (by omega))).mono ?_
  rintro e w2 ⟨rfl, h, k9⟩
  have H2 := Lib.hid h; have K2 := Lib.hid (K1.out.trans k9)
  clear c
  have c := (P.out.kept K2.out).cell
  clear h k9 H1 K1
  go_wp2
  go_end0
  exact ⟨rfl, H2.out, K2.out⟩
set_option maxHeartbeats 3200000 in
set_option maxRecDepth 100000 in
theorem k_op3 {w0 w1 : World} {X mb : Nat} {H : Type} {s : Pl3} {b : Nat} (hb : BoxP w1 b X) (h : PlanS w0 w1 X mb H s) (hk : Ok 700 s) :
    Calls Tryz.prog 169 #[.pointer (some ⟨b, 0, none⟩)] w1 (PostS w0 X mb H (s.op3) w1) := by
  have P := Lib.hid hb; have K1 := Lib.hid (Kept.refl w1); have H1 := Lib.hid h
  have c := hb.cell
  have HK := Lib.hid hk
  clear h hb hk
  go_enter Tryz.func169, Tryz.ntmps169
  go_wp2_with fail
  refine (c_head 9 1 H1.out ((HK.out).mono (by omega))).mono ?_
  rintro e w2 ⟨rfl, h, k9⟩
  have H2 := Lib.hid h; have K2 := Lib.hid (K1.out.trans k9)
  clear c
  have c := (P.out.kept K2.out).cell
  clear h k9 H1 K1
  go_wp2_with fail
  refine (c_read 3 9 H2.out (((HK.out.wr _)).mono (by omega))).mono ?_
  rintro e w3 ⟨rfl, h, k9⟩
  have H3 := Lib.hid h; have K3 := Lib.hid (K2.out.trans k9)
  clear c
  have c := (P.out.kept K3.out).cell
  clear h k9 H2 K2
  go_wp2_with fail
  refine (c_tail 1 1 H3.out ((((HK.out.wr _).read 3 9)).mono (by omega))).mono ?_
  rintro e w4 ⟨rfl, h, k9⟩
  have H4 := Lib.hid h; have K4 := Lib.hid (K3.out.trans k9)
  clear c
  have c := (P.out.kept K4.out).cell
  clear h k9 H3 K3
  go_wp2_with fail
  refine (c_read 9 1 H4.out (((((HK.out.wr _).read 3 9).wr _)).mono (by omega))).mono ?_
  rintro e w5 ⟨rfl, h, k9⟩
  have H5 := Lib.hid h; have K5 := Lib.hid (K4.out.trans k9)
  clear c
  have c := (P.out.kept K5.out).cell
  clear h k9 H4 K4
  go_wp2_with fail
  refine (c_cons 3 3 9 H5.out ((((((HK.out.wr _).read 3 9).wr _).read 9 1)).mono (by omega))).mono ?_
  rintro e w6 ⟨rfl, h, k9⟩
  have H6 := Lib.hid h; have K6 := Lib.hid (K5.out.trans k9)
  clear c
  have c := (P.out.kept K6.out).cell
  clear h k9 H5 K5
  go_wp2
  go_end0
  exact ⟨rfl, H6.out, K6.out⟩
set_option maxHeartbeats 3200000 in
set_option maxRecDepth 100000 in
theorem k_op4 {w0 w1 : World} {X mb : Nat} {H : Type} {s : Pl3} {b : Nat} (hb : BoxP w1 b X) (h : PlanS w0 w1 X mb H s) (hk : Ok 700 s) :
    Calls Tryz.prog 170 #[.pointer (some ⟨b, 0, none⟩)] w1 (PostS w0 X mb H (s.op4) w1) := by
  have P := Lib.hid hb; have K1 := Lib.hid (Kept.refl w1); have H1 := Lib.hid h
  have c := hb.cell
  have HK := Lib.hid hk
  clear h hb hk
  go_enter Tryz.func170, Tryz.ntmps170
  go_wp2_with fail
  refine (c_read 3 1 H1.out ((HK.out).mono (by omega))).mono ?_
  rintro e w2 ⟨rfl, h, k9⟩
  have H2 := Lib.hid h; have K2 := Lib.hid (K1.out.trans k9)
  clear c
  have c := (P.out.kept K2.out).cell
  clear h k9 H1 K1
  go_wp2_with fail
  refine (c_head 3 3 H2.out (((HK.out.read 3 1)).mono (by omega))).mono ?_
  rintro e w3 ⟨rfl, h, k9⟩
  have H3 := Lib.hid h; have K3 := Lib.hid (K2.out.trans k9)
  clear c
  have c := (P.out.kept K3.out).cell
  clear h k9 H2 K2
  go_wp2
  go_end0
  exact ⟨rfl, H3.out, K3.out⟩
set_option maxHeartbeats 3200000 in
set_option maxRecDepth 100000 in
theorem k_op5 {w0 w1 : World} {X mb : Nat} {H : Type} {s : Pl3} {b : Nat} (hb : BoxP w1 b X) (h : PlanS w0 w1 X mb H s) (hk : Ok 700 s) :
    Calls Tryz.prog 171 #[.pointer (some ⟨b, 0, none⟩)] w1 (PostS w0 X mb H (s.op5) w1) := by
  have P := Lib.hid hb; have K1 := Lib.hid (Kept.refl w1); have H1 := Lib.hid h
  have c := hb.cell
  have HK := Lib.hid hk
  clear h hb hk
  go_enter Tryz.func171, Tryz.ntmps171
  go_wp2_with fail
  refine (c_read 3 1 H1.out ((HK.out).mono (by omega))).mono ?_
  rintro e w2 ⟨rfl, h, k9⟩
  have H2 := Lib.hid h; have K2 := Lib.hid (K1.out.trans k9)
  clear c
  have c := (P.out.kept K2.out).cell
  clear h k9 H1 K1
  go_wp2_with fail
  refine (c_tail 3 3 H2.out (((HK.out.read 3 1)).mono (by omega))).mono ?_
  rintro e w3 ⟨rfl, h, k9⟩
  have H3 := Lib.hid h; have K3 := Lib.hid (K2.out.trans k9)
  clear c
  have c := (P.out.kept K3.out).cell
  clear h k9 H2 K2
  go_wp2
  go_end0
  exact ⟨rfl, H3.out, K3.out⟩
set_option maxHeartbeats 3200000 in
set_option maxRecDepth 100000 in
theorem k_jumpB1 {w0 w1 : World} {X mb : Nat} {H : Type} {s : Pl3} {b : Nat} (hb : BoxP w1 b X) (h : PlanS w0 w1 X mb H s) (hk : Ok 950 s) :
    Calls Tryz.prog 128 #[.pointer (some ⟨b, 0, none⟩)] w1 (PostS w0 X mb H (s.jumpB1) w1) := by
  have P := Lib.hid hb; have K1 := Lib.hid (Kept.refl w1); have H1 := Lib.hid h
  have c := hb.cell
  have HK := Lib.hid hk
  clear h hb hk
  go_enter Tryz.func128, Tryz.ntmps128
  go_wp2_with fail
  refine (c_tail 1 1 H1.out ((HK.out).mono (by omega))).mono ?_
  rintro e w2 ⟨rfl, h, k9⟩
  have H2 := Lib.hid h; have K2 := Lib.hid (K1.out.trans k9)
  clear c
  have c := (P.out.kept K2.out).cell
  clear h k9 H1 K1
  go_wp2_with fail
  refine (c_shift 7 5 H2.out (((HK.out.wr _)).mono (by omega))).mono ?_
  rintro e w3 ⟨rfl, h, k9⟩
  have H3 := Lib.hid h; have K3 := Lib.hid (K2.out.trans k9)
  clear c
  have c := (P.out.kept K3.out).cell
  clear h k9 H2 K2
  go_wp2
  go_end0
  exact ⟨rfl, H3.out, K3.out⟩
set_option maxHeartbeats 3200000 in
set_option maxRecDepth 100000 in
theorem k_jumpB2 {w0 w1 : World} {X mb : Nat} {H : Type} {s : Pl3} {b : Nat} (hb : BoxP w1 b X) (h : PlanS w0 w1 X mb H s) (hk : Ok 950 s) :
    Calls Tryz.prog 130 #[.pointer (some ⟨b, 0, none⟩)] w1 (PostS w0 X mb H (s.jumpB2) w1) := by
  have P := Lib.hid hb; have K1 := Lib.hid (Kept.refl w1); have H1 := Lib.hid h
  have c := hb.cell
  have HK := Lib.hid hk
  clear h hb hk
  go_enter Tryz.func130, Tryz.ntmps130
  go_wp2_with fail
  refine (c_tail 1 1 H1.out ((HK.out).mono (by omega))).mono ?_
  rintro e w2 ⟨rfl, h, k9⟩
  have H2 := Lib.hid h; have K2 := Lib.hid (K1.out.trans k9)
  clear c
  have c := (P.out.kept K2.out).cell
  clear h k9 H1 K1
  go_wp2_with fail
  refine (c_shift 5 7 H2.out (((HK.out.wr _)).mono (by omega))).mono ?_
  rintro e w3 ⟨rfl, h, k9⟩
  have H3 := Lib.hid h; have K3 := Lib.hid (K2.out.trans k9)
  clear c
  have c := (P.out.kept K3.out).cell
  clear h k9 H2 K2
  go_wp2
  go_end0
  exact ⟨rfl, H3.out, K3.out⟩
set_option maxHeartbeats 3200000 in
set_option maxRecDepth 100000 in
theorem k_storeB1 {w0 w1 : World} {X mb : Nat} {H : Type} {s : Pl3} {b : Nat} (hb : BoxP w1 b X) (h : PlanS w0 w1 X mb H s) (hk : Ok 950 s) :
    Calls Tryz.prog 131 #[.pointer (some ⟨b, 0, none⟩)] w1 (PostS w0 X mb H (s.storeB1) w1) := by
  have P := Lib.hid hb; have K1 := Lib.hid (Kept.refl w1); have H1 := Lib.hid h
  have c := hb.cell
  have HK := Lib.hid hk
  clear h hb hk
  go_enter Tryz.func131, Tryz.ntmps131
  go_wp2_with fail
  refine (c_tail 4 4 H1.out ((HK.out).mono (by omega))).mono ?_
  rintro e w2 ⟨rfl, h, k9⟩
  have H2 := Lib.hid h; have K2 := Lib.hid (K1.out.trans k9)
  clear c
  have c := (P.out.kept K2.out).cell
  clear h k9 H1 K1
  go_wp2_with fail
  refine (c_shift 6 0 H2.out (((HK.out.wr _)).mono (by omega))).mono ?_
  rintro e w3 ⟨rfl, h, k9⟩
  have H3 := Lib.hid h; have K3 := Lib.hid (K2.out.trans k9)
  clear c
  have c := (P.out.kept K3.out).cell
  clear h k9 H2 K2
  go_wp2
  go_end0
  exact ⟨rfl, H3.out, K3.out⟩
set_option maxHeartbeats 3200000 in
set_option maxRecDepth 100000 in
theorem k_storeB2 {w0 w1 : World} {X mb : Nat} {H : Type} {s : Pl3} {b : Nat} (hb : BoxP w1 b X) (h : PlanS w0 w1 X mb H s) (hk : Ok 950 s) :
    Calls Tryz.prog 132 #[.pointer (some ⟨b, 0, none⟩)] w1 (PostS w0 X mb H (s.storeB2) w1) := by
  have P := Lib.hid hb; have K1 := Lib.hid (Kept.refl w1); have H1 := Lib.hid h
  have c := hb.cell
  have HK := Lib.hid hk
  clear h hb hk
  go_enter Tryz.func132, Tryz.ntmps132
  go_wp2_with fail
  refine (c_shift 0 6 H1.out ((HK.out).mono (by omega))).mono ?_
  rintro e w2 ⟨rfl, h, k9⟩
  have H2 := Lib.hid h; have K2 := Lib.hid (K1.out.trans k9)
  clear c
  have c := (P.out.kept K2.out).cell
  clear h k9 H1 K1
  go_wp2
  go_end0
  exact ⟨rfl, H2.out, K2.out⟩
set_option maxHeartbeats 3200000 in
set_option maxRecDepth 100000 in
theorem c_jumpW {w0 w1 : World} {X mb : Nat} {H : Type} {s : Pl3} (h : PlanS w0 w1 X mb H s) (hk : Ok 700 s) :
    Calls Tryz.prog 85 #[.pointer (some ⟨X, 0, none⟩)] w1 (PostS w0 X mb H (s.jump) w1) := by
  have a1 := alloc_belowW w1 (.cells #[.pointer (some ⟨X, 0, none⟩)] 140)
  have p1 : BoxP (w1.alloc (.cells #[.pointer (some ⟨X, 0, none⟩)] 140)) w1.heap.size X := heap_alloc_new w1 _
  have P := Lib.hid p1; have K1 := Lib.hid (Kept.of_below a1); have H1 := Lib.hid (h.later a1)
  have c := p1.cell
  have HK := Lib.hid hk
  clear h a1 p1 hk
  go_enter Tryz.func85, Tryz.ntmps85
  go_wp2_with fail
  generalize w1.alloc (.cells #[.pointer (some ⟨X, 0, none⟩)] 140) = w1b at *
  generalize w1.heap.size = b at *
  refine (c_read 3 4 H1.out ((HK.out).mono (by omega))).mono ?_
  rintro e w2 ⟨rfl, h, k9⟩
  have H2 := Lib.hid h; have K2 := Lib.hid (K1.out.trans k9)
  have J2 : Hid (Kept w1b w2) := Lib.hid (k9)
  clear c
  have c := (P.out.kept J2.out).cell
  clear h k9 H1 K1
  go_wp2_with fail
  refine (c_jump [109, 97, 100, 101] 3 H2.out (((HK.out.read 3 4)).mono (by omega))).mono ?_
  rintro e w3 ⟨rfl, h, k9⟩
  have H3 := Lib.hid h; have K3 := Lib.hid (K2.out.trans k9)
  have J3 : Hid (Kept w1b w3) := Lib.hid (J2.out.trans k9)
  clear c
  have c := (P.out.kept J3.out).cell
  clear h k9 H2 K2 J2
  go_wp2_with fail
  refine (c_jump [111, 110] 10 H3.out ((((HK.out.read 3 4).jumpTo _ _)).mono (by omega))).mono ?_
  rintro e w4 ⟨rfl, h, k9⟩
  have H4 := Lib.hid h; have K4 := Lib.hid (K3.out.trans k9)
  have J4 : Hid (Kept w1b w4) := Lib.hid (J3.out.trans k9)
  clear c
  have c := (P.out.kept J4.out).cell
  clear h k9 H3 K3 J3
  go_wp2_with fail
  refine (c_place [109, 97, 100, 101] (by decide) H4.out (((((HK.out.read 3 4).jumpTo _ _).jumpTo _ _)).mono (by omega))).mono ?_
  rintro e w5 ⟨rfl, h, k9⟩
  have H5 := Lib.hid h; have K5 := Lib.hid (K4.out.trans k9)
  have J5 : Hid (Kept w1b w5) := Lib.hid (J4.out.trans k9)
  clear c
  have c := (P.out.kept J5.out).cell
  clear h k9 H4 K4 J4
  go_wp2_with fail
  refine (c_head 3 1 H5.out ((((((HK.out.read 3 4).jumpTo _ _).jumpTo _ _).place _)).mono (by omega))).mono ?_
  rintro e w6 ⟨rfl, h, k9⟩
  have H6 := Lib.hid h; have K6 := Lib.hid (K5.out.trans k9)
  have J6 : Hid (Kept w1b w6) := Lib.hid (J5.out.trans k9)
  clear c
  have c := (P.out.kept J6.out).cell
  clear h k9 H5 K5 J5
  go_wp2_with fail
  refine (c_tail 1 1 H6.out (((((((HK.out.read 3 4).jumpTo _ _).jumpTo _ _).place _).wr _)).mono (by omega))).mono ?_
  rintro e w7 ⟨rfl, h, k9⟩
  have H7 := Lib.hid h; have K7 := Lib.hid (K6.out.trans k9)
  have J7 : Hid (Kept w1b w7) := Lib.hid (J6.out.trans k9)
  clear c
  have c := (P.out.kept J7.out).cell
  clear h k9 H6 K6 J6
  go_wp2_with fail
  refine (c_jump [98, 97, 99, 107] 3 H7.out ((((((((HK.out.read 3 4).jumpTo _ _).jumpTo _ _).place _).wr _).wr _)).mono (by omega))).mono ?_
  rintro e w8 ⟨rfl, h, k9⟩
  have H8 := Lib.hid h; have K8 := Lib.hid (K7.out.trans k9)
  have J8 : Hid (Kept w1b w8) := Lib.hid (J7.out.trans k9)
  clear c
  have c := (P.out.kept J8.out).cell
  clear h k9 H7 K7 J7
  go_wp2_with fail
  refine (c_repeat 1 128 #[.pointer (some ⟨b, 0, none⟩)] Pl3.jumpB1 4 H8.out (((((((((HK.out.read 3 4).jumpTo _ _).jumpTo _ _).place _).wr _).wr _).jumpTo _ _)).mono (by omega)) (by omega) (enters_of Tryz.func128 (by kernel_rfl) rfl) Ok.jumpB1 (fun W s' hW hp ho => k_jumpB1 ((P.out.kept J8.out).kept hW) hp (ho.mono (by omega)))).mono ?_
  rintro e w9 ⟨rfl, h, k9⟩
  have H9 := Lib.hid h; have K9 := Lib.hid (K8.out.trans k9)
  have J9 : Hid (Kept w1b w9) := Lib.hid (J8.out.trans k9)
  clear c
  have c := (P.out.kept J9.out).cell
  clear h k9 H8 K8 J8
  go_wp2_with fail
  refine (c_jump [110, 101, 120, 116] 10 H9.out ((((((((((HK.out.read 3 4).jumpTo _ _).jumpTo _ _).place _).wr _).wr _).jumpTo _ _).rep 1 Ok.jumpB1)).mono (by omega))).mono ?_
  rintro e w10 ⟨rfl, h, k9⟩
  have H10 := Lib.hid h; have K10 := Lib.hid (K9.out.trans k9)
  have J10 : Hid (Kept w1b w10) := Lib.hid (J9.out.trans k9)
  clear c
  have c := (P.out.kept J10.out).cell
  clear h k9 H9 K9 J9
  go_wp2_with fail
  refine (c_place [98, 97, 99, 107] (by decide) H10.out (((((((((((HK.out.read 3 4).jumpTo _ _).jumpTo _ _).place _).wr _).wr _).jumpTo _ _).rep 1 Ok.jumpB1).jumpTo _ _)).mono (by omega))).mono ?_
  rintro e w11 ⟨rfl, h, k9⟩
  have H11 := Lib.hid h; have K11 := Lib.hid (K10.out.trans k9)
  have J11 : Hid (Kept w1b w11) := Lib.hid (J10.out.trans k9)
  clear c
  have c := (P.out.kept J11.out).cell
  clear h k9 H10 K10 J10
  go_wp2_with fail
  refine (c_repeat 1 130 #[.pointer (some ⟨b, 0, none⟩)] Pl3.jumpB2 4 H11.out ((((((((((((HK.out.read 3 4).jumpTo _ _).jumpTo _ _).place _).wr _).wr _).jumpTo _ _).rep 1 Ok.jumpB1).jumpTo _ _).place _)).mono (by omega)) (by omega) (enters_of Tryz.func130 (by kernel_rfl) rfl) Ok.jumpB2 (fun W s' hW hp ho => k_jumpB2 ((P.out.kept J11.out).kept hW) hp (ho.mono (by omega)))).mono ?_
  rintro e w12 ⟨rfl, h, k9⟩
  have H12 := Lib.hid h; have K12 := Lib.hid (K11.out.trans k9)
  have J12 : Hid (Kept w1b w12) := Lib.hid (J11.out.trans k9)
  clear c
  have c := (P.out.kept J12.out).cell
  clear h k9 H11 K11 J11
  go_wp2_with fail
  refine (c_jump [110, 101, 120, 116] 10 H12.out (((((((((((((HK.out.read 3 4).jumpTo _ _).jumpTo _ _).place _).wr _).wr _).jumpTo _ _).rep 1 Ok.jumpB1).jumpTo _ _).place _).rep 1 Ok.jumpB2)).mono (by omega))).mono ?_
  rintro e w13 ⟨rfl, h, k9⟩
  have H13 := Lib.hid h; have K13 := Lib.hid (K12.out.trans k9)
  have J13 : Hid (Kept w1b w13) := Lib.hid (J12.out.trans k9)
  clear c
  have c := (P.out.kept J13.out).cell
  clear h k9 H12 K12 J12
  go_wp2
  go_end0
  exact ⟨rfl, H13.out, K13.out⟩
set_option maxHeartbeats 3200000 in
set_option maxRecDepth 100000 in
theorem c_storeW {w0 w1 : World} {X mb : Nat} {H : Type} {s : Pl3} (h : PlanS w0 w1 X mb H s) (hk : Ok 700 s) :
    Calls Tryz.prog 86 #[.pointer (some ⟨X, 0, none⟩)] w1 (PostS w0 X mb H (s.store) w1) := by
  have a1 := alloc_belowW w1 (.cells #[.pointer (some ⟨X, 0, none⟩)] 140)
  have p1 : BoxP (w1.alloc (.cells #[.pointer (some ⟨X, 0, none⟩)] 140)) w1.heap.size X := heap_alloc_new w1 _
  have P := Lib.hid p1; have K1 := Lib.hid (Kept.of_below a1); have H1 := Lib.hid (h.later a1)
  have c := p1.cell
  have HK := Lib.hid hk
  clear h a1 p1 hk
  go_enter Tryz.func86, Tryz.ntmps86
  go_wp2_with fail
  generalize w1.alloc (.cells #[.pointer (some ⟨X, 0, none⟩)] 140) = w1b at *
  generalize w1.heap.size = b at *
  refine (c_place [115, 116, 111, 114, 101] (by decide) H1.out ((HK.out).mono (by omega))).mono ?_
  rintro e w2 ⟨rfl, h, k9⟩
  have H2 := Lib.hid h; have K2 := Lib.hid (K1.out.trans k9)
  have J2 : Hid (Kept w1b w2) := Lib.hid (k9)
  clear c
  have c := (P.out.kept J2.out).cell
  clear h k9 H1 K1
  go_wp2_with fail
  refine (c_repeat 4 131 #[.pointer (some ⟨b, 0, none⟩)] Pl3.storeB1 4 H2.out (((HK.out.place _)).mono (by omega)) (by omega) (enters_of Tryz.func131 (by kernel_rfl) rfl) Ok.storeB1 (fun W s' hW hp ho => k_storeB1 ((P.out.kept J2.out).kept hW) hp (ho.mono (by omega)))).mono ?_
  rintro e w3 ⟨rfl, h, k9⟩
  have H3 := Lib.hid h; have K3 := Lib.hid (K2.out.trans k9)
  have J3 : Hid (Kept w1b w3) := Lib.hid (J2.out.trans k9)
  clear c
  have c := (P.out.kept J3.out).cell
  clear h k9 H2 K2 J2
  go_wp2_with fail
  refine (c_tail 0 0 H3.out ((((HK.out.place _).rep 4 Ok.storeB1)).mono (by omega))).mono ?_
  rintro e w4 ⟨rfl, h, k9⟩
  have H4 := Lib.hid h; have K4 := Lib.hid (K3.out.trans k9)
  have J4 : Hid (Kept w1b w4) := Lib.hid (J3.out.trans k9)
  clear c
  have c := (P.out.kept J4.out).cell
  clear h k9 H3 K3 J3
  go_wp2_with fail
  refine (c_cons 0 3 0 H4.out (((((HK.out.place _).rep 4 Ok.storeB1).wr _)).mono (by omega))).mono ?_
  rintro e w5 ⟨rfl, h, k9⟩
  have H5 := Lib.hid h; have K5 := Lib.hid (K4.out.trans k9)
  have J5 : Hid (Kept w1b w5) := Lib.hid (J4.out.trans k9)
  clear c
  have c := (P.out.kept J5.out).cell
  clear h k9 H4 K4 J4
  go_wp2_with fail
  refine (c_repeat 6 132 #[.pointer (some ⟨b, 0, none⟩)] Pl3.storeB2 3 H5.out ((((((HK.out.place _).rep 4 Ok.storeB1).wr _).wr _)).mono (by omega)) (by omega) (enters_of Tryz.func132 (by kernel_rfl) rfl) Ok.storeB2 (fun W s' hW hp ho => k_storeB2 ((P.out.kept J5.out).kept hW) hp (ho.mono (by omega)))).mono ?_
  rintro e w6 ⟨rfl, h, k9⟩
  have H6 := Lib.hid h; have K6 := Lib.hid (K5.out.trans k9)
  have J6 : Hid (Kept w1b w6) := Lib.hid (J5.out.trans k9)
  clear c
  have c := (P.out.kept J6.out).cell
  clear h k9 H5 K5 J5
  go_wp2
  go_end0
  exact ⟨rfl, H6.out, K6.out⟩
set_option maxHeartbeats 3200000 in
set_option maxRecDepth 100000 in
theorem c_nextW {w0 w1 : World} {X mb : Nat} {H : Type} {s : Pl3} (h : PlanS w0 w1 X mb H s) (hk : Ok 700 s) :
    Calls Tryz.prog 87 #[.pointer (some ⟨X, 0, none⟩)] w1 (PostS w0 X mb H (s.next) w1) := by
  have K1 := Lib.hid (Kept.refl w1); have H1 := Lib.hid h
  have HK := Lib.hid hk
  clear h hk
  go_enter Tryz.func87, Tryz.ntmps87
  go_wp2_with fail
  refine (c_place [111, 110] (by decide) H1.out ((HK.out).mono (by omega))).mono ?_
  rintro e w2 ⟨rfl, h, k9⟩
  have H2 := Lib.hid h; have K2 := Lib.hid (K1.out.trans k9)
  clear h k9 H1 K1
  go_wp2_with fail
  refine (c_shift 7 5 H2.out (((HK.out.place _)).mono (by omega))).mono ?_
  rintro e w3 ⟨rfl, h, k9⟩
  have H3 := Lib.hid h; have K3 := Lib.hid (K2.out.trans k9)
  clear h k9 H2 K2
  go_wp2_with fail
  refine (c_place [110, 101, 120, 116] (by decide) H3.out ((((HK.out.place _).shift 7 5)).mono (by omega))).mono ?_
  rintro e w4 ⟨rfl, h, k9⟩
  have H4 := Lib.hid h; have K4 := Lib.hid (K3.out.trans k9)
  clear h k9 H3 K3
  go_wp2_with fail
  refine (c_jump [115, 116, 101, 112] 5 H4.out (((((HK.out.place _).shift 7 5).place _)).mono (by omega))).mono ?_
  rintro e w5 ⟨rfl, h, k9⟩
  have H5 := Lib.hid h; have K5 := Lib.hid (K4.out.trans k9)
  clear h k9 H4 K4
  go_wp2_with fail
  refine (c_head 0 0 H5.out ((((((HK.out.place _).shift 7 5).place _).jumpTo _ _)).mono (by omega))).mono ?_
  rintro e w6 ⟨rfl, h, k9⟩
  have H6 := Lib.hid h; have K6 := Lib.hid (K5.out.trans k9)
  clear h k9 H5 K5
  go_wp2
  go_end0
  exact ⟨rfl, H6.out, K6.out⟩
set_option maxHeartbeats 3200000 in
set_option maxRecDepth 100000 in
theorem c_startW {w0 w1 : World} {X mb : Nat} {H : Type} {s : Pl3} (h : PlanS w0 w1 X mb H s) (hk : Ok 700 s) :
    Calls Tryz.prog 83 #[.pointer (some ⟨X, 0, none⟩)] w1 (PostS w0 X mb H (s.start) w1) := by
  have K1 := Lib.hid (Kept.refl w1); have H1 := Lib.hid h
  have HK := Lib.hid hk
  clear h hk
  go_enter Tryz.func83, Tryz.ntmps83
  go_wp2_with fail
  refine (c_head 5 0 H1.out ((HK.out).mono (by omega))).mono ?_
  rintro e w2 ⟨rfl, h, k9⟩
  have H2 := Lib.hid h; have K2 := Lib.hid (K1.out.trans k9)
  clear h k9 H1 K1
  go_wp2_with fail
  refine (c_tail 0 0 H2.out (((HK.out.wr _)).mono (by omega))).mono ?_
  rintro e w3 ⟨rfl, h, k9⟩
  have H3 := Lib.hid h; have K3 := Lib.hid (K2.out.trans k9)
  clear h k9 H2 K2
  go_wp2_with fail
  refine (c_cons 0 0 7 H3.out ((((HK.out.wr _).wr _)).mono (by omega))).mono ?_
  rintro e w4 ⟨rfl, h, k9⟩
  have H4 := Lib.hid h; have K4 := Lib.hid (K3.out.trans k9)
  clear h k9 H3 K3
  go_wp2_with fail
  refine (c_set 10 [49, 48, 48] (by decide) H4.out (((((HK.out.wr _).wr _).wr _)).mono (by omega))).mono ?_
  rintro e w5 ⟨rfl, h, k9⟩
  have H5 := Lib.hid h; have K5 := Lib.hid (K4.out.trans k9)
  clear h k9 H4 K4
  go_wp2_with fail
  refine (c_jump [110, 101, 120, 116] 10 H5.out ((((((HK.out.wr _).wr _).wr _).wr _)).mono (by omega))).mono ?_
  rintro e w6 ⟨rfl, h, k9⟩
  have H6 := Lib.hid h; have K6 := Lib.hid (K5.out.trans k9)
  clear h k9 H5 K5
  go_wp2
  go_end0
  exact ⟨rfl, H6.out, K6.out⟩
end Go.Proofs.YtkpfocgcnehajabGreatDoor
