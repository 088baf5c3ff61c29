/- The walks of TreeConses, TreeParts, TreeOneWay. By an AI agent. -/
import Derived.Test.YtkodkimdhalpcaaAwake
namespace Go.Proofs.Ytkodkimdhalpcaa
open Go.RowKit Pl

theorem cat3 (a b : ByteArray) : ((49 :: (a.data.toList ++ b.data.toList)) == (({ data := #[49] } : ByteArray) ++ a ++ b).toList) = true := by
  rw [ByteArray.toList_eq, beq_iff_eq]
  simp
theorem rValid_is (b : Bool) (s : ByteArray) (w : World) (hs : s.size ≤ 281474976710656) (h : vld s.data.toList = b) :
    Calls Try.prog 18 #[.string s] w fun e w' => e = .returned (.bool b) ∧ w = w' := by
  rw [← h]; exact rValid_any s w hs

set_option maxHeartbeats 800000 in
set_option maxRecDepth 100000 in
theorem conses_a (a b : ByteArray) (w : World) (ha : a.size ≤ 281474976710656) (hb : b.size ≤ 281474976710656) (h : vld a.data.toList = false) :
    Calls Try.prog 4 #[.string a, .string b] w fun e w' => e = .returned (.bool true) ∧ Below w.heap.size w w' := by
  have H := Lib.hid h; clear h
  go_enter Try.func4, Try.ntmps4
  go_wp2_with fail
  refine (Cons_form a b _ ha hb (by rw [H.out]; rfl)).mono ?_
  rintro e w1 ⟨rfl, h1⟩
  go_wp2_with fail
  refine (rValid_is false a _ ha H.out).mono ?_
  rintro e w2 ⟨rfl, rfl⟩
  go_wp2_with fail
  refine (awake_any _).mono ?_
  rintro e w3 ⟨rfl, h3⟩
  go_wp2_with fail
  go_ret
  exact ⟨rfl, bstep h1 h3⟩
set_option maxHeartbeats 800000 in
set_option maxRecDepth 100000 in
theorem conses_b (a b : ByteArray) (w : World) (ha : a.size ≤ 281474976710656) (hb : b.size ≤ 281474976710656) (ga : vld a.data.toList = true) (h : vld b.data.toList = false) :
    Calls Try.prog 4 #[.string a, .string b] w fun e w' => e = .returned (.bool true) ∧ Below w.heap.size w w' := by
  have H := Lib.hid h; clear h
  have G := Lib.hid ga; clear ga
  go_enter Try.func4, Try.ntmps4
  go_wp2_with fail
  refine (Cons_form a b _ ha hb (by rw [H.out]; simp)).mono ?_
  rintro e w1 ⟨rfl, h1⟩
  go_wp2_with fail
  refine (rValid_is true a _ ha G.out).mono ?_
  rintro e w2 ⟨rfl, rfl⟩
  go_wp2_with fail
  refine (rValid_is false b _ hb H.out).mono ?_
  rintro e w2 ⟨rfl, rfl⟩
  go_wp2_with fail
  refine (awake_any _).mono ?_
  rintro e w3 ⟨rfl, h3⟩
  go_wp2_with fail
  go_ret
  exact ⟨rfl, bstep h1 h3⟩
set_option maxHeartbeats 800000 in
set_option maxRecDepth 100000 in
theorem conses_c (a b : ByteArray) (w : World) (ga : vld a.data.toList = true) (h : vld b.data.toList = true) (hz : 2000000 < 1 + a.size + b.size) :
    Calls Try.prog 4 #[.string a, .string b] w fun e w' => e = .returned (.bool true) ∧ Below w.heap.size w w' := by
  have ha := vld_size ga
  have hb := vld_size h
  have hz1 : (2000000 : Int) ≤ (a.size : Int) + (b.size : Int) := by omega
  have HZ := Lib.hid hz; clear hz
  have H := Lib.hid h; clear h
  have G := Lib.hid ga; clear ga
  go_enter Try.func4, Try.ntmps4
  go_wp2_with fail
  refine (Cons_size a b _ G.out H.out HZ.out).mono ?_
  rintro e w1 ⟨rfl, h1⟩
  go_wp2_with fail
  refine (rValid_is true a _ (by omega) G.out).mono ?_
  rintro e w2 ⟨rfl, rfl⟩
  go_wp2_with fail
  refine (rValid_is true b _ (by omega) H.out).mono ?_
  rintro e w2 ⟨rfl, rfl⟩
  go_wp2_with fail
  refine (awake_any _).mono ?_
  rintro e w3 ⟨rfl, h3⟩
  go_wp2_with fail
  go_ret
  exact ⟨rfl, bstep h1 h3⟩
set_option maxHeartbeats 800000 in
set_option maxRecDepth 100000 in
theorem conses_d (a b : ByteArray) (w : World) (ga : vld a.data.toList = true) (h : vld b.data.toList = true) (hz : 1 + a.size + b.size ≤ 2000000) :
    Calls Try.prog 4 #[.string a, .string b] w fun e w' => e = .returned (.bool true) ∧ Below w.heap.size w w' := by
  have ha := vld_size ga
  have hb := vld_size h
  have hcat := cat3 a b
  have hz1 : decide ((2000000 : Int) ≤ (a.size : Int) + (b.size : Int)) = false := by rw [decide_eq_false_iff_not]; omega
  have ha' : a.size ≤ 281474976710656 := by omega
  have hb' : b.size ≤ 281474976710656 := by omega
  clear ha hb
  have HZ := Lib.hid hz; clear hz
  have H := Lib.hid h; clear h
  have G := Lib.hid ga; clear ga
  go_enter Try.func4, Try.ntmps4
  go_wp2_with fail
  refine (Cons_yes a b _ G.out H.out HZ.out).mono ?_
  rintro e w1 ⟨rfl, h1⟩
  go_wp2_with fail
  refine (rValid_is true a _ ha' G.out).mono ?_
  rintro e w2 ⟨rfl, rfl⟩
  go_wp2_with fail
  refine (rValid_is true b _ hb' H.out).mono ?_
  rintro e w2 ⟨rfl, rfl⟩
  go_wp2_with fail
  refine (awake_any _).mono ?_
  rintro e w3 ⟨rfl, h3⟩
  go_wp2_with fail
  go_ret
  exact ⟨rfl, bstep h1 h3⟩
theorem TreeConses_any (a b : ByteArray) (w : World) (ha : a.size ≤ 281474976710656) (hb : b.size ≤ 281474976710656) :
    Calls Try.prog 4 #[.string a, .string b] w fun e w' => e = .returned (.bool true) ∧ Below w.heap.size w w' := by
  cases g : vld a.data.toList with
  | false => exact conses_a a b w ha hb g
  | true =>
    cases h : vld b.data.toList with
    | false => exact conses_b a b w ha hb g h
    | true =>
      rcases Nat.lt_or_ge 2000000 (1 + a.size + b.size) with hz | hz
      · exact conses_c a b w g h hz
      · exact conses_d a b w g h hz
end Go.Proofs.Ytkodkimdhalpcaa
