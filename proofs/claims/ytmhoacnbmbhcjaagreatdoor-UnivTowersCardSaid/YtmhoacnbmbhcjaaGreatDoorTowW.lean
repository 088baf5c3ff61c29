/- Package univ: Tower and the reference's Tower. By an AI agent. -/
import Derived.Test.YtmhoacnbmbhcjaaGreatDoorTow
import Derived.Test.YtmhoacnbmbhcjaaGreatDoorCdr
namespace Go.Proofs.YtmhoacnbmbhcjaaGreatDoor
open Go.RowKit Pl

theorem isb_below {B b : Nat} {bs : List Value} {w w' : World} (h : Lib.IsBuilder 131 5 B b bs w) (hb : Below w.heap.size w w') : Lib.IsBuilder 131 5 B b bs w' :=
  h.imp (fun ⟨h1, v, h2, h3, h4⟩ => ⟨h1, v, (hb.block b (Array.getElem?_eq_some_iff.1 h2).1).trans h2, own_below h3 hb, h4⟩) (fun ⟨h1, v, h2, h3, h4⟩ => ⟨h1, v, (hb.block b (Array.getElem?_eq_some_iff.1 h2).1).trans h2, own_below h3 hb, h4⟩)
theorem BLen (B b : Nat) (l : List UInt8) (w : World) (h : Lib.IsBuilder 131 5 B b (Lib.byteCells l) w) :
    Calls Tryz.prog 110 #[.pointer (some ⟨b, 0, none⟩)] w fun e w' => e = .returned (.int .i64 (l.length : Nat)) ∧ w' = w :=
  (Tryz.Builder_Len B b _ w h).mono fun e w' ⟨h1, h2⟩ => ⟨by rw [h1, Lib.byteCells_length], h2⟩
theorem towB_fit {pss : List (List Ins)} {k : Nat} {p : List Ins} {X : Nat} (h : pss[k]? = some p) (hb : 2000000 ≤ (towB (pss.take k)).length + (enc (codes p)).length + X) : ¬ (towB pss).length + X ≤ 2000000 := by
  have h1 := towB_le pss (k + 1)
  rw [towB_take h] at h1
  simp only [List.length_append, List.length_cons, List.length_nil] at h1
  omega
set_option maxHeartbeats 1600000 in
set_option maxRecDepth 100000 in
theorem Tower_no (w : World) (a : Option Addr) (cap : Nat) (pss : List (List Ins)) (x : ByteArray) (hc : LsA w a pss) (hm : pss.length ≤ 6000000000000) (hs : SzL pss) (hx : x.size ≤ 281474976710656) (hn : ¬ (∀ p ∈ pss, PValid p) ∨ vld x.data.toList = false) :
    Calls Tryz.prog 48 #[.slice a pss.length cap, .string x] w fun e w' => e = .returned (.tuple #[.string ⟨#[]⟩, .int .i64 1]) ∧ Below w.heap.size w w' := by
  by_cases hv : ∀ p ∈ pss, PValid p
  · have hx0 : vld x.data.toList = false := by
      rcases hn with h | h
      · exact absurd hv h
      · exact h
    have H1 := Lib.hid (allValid_any w a cap pss hc hm hs true (by simp; exact hv))
    have H2 := Lib.hid (fun W => Valid_is false x W hx hx0)
    clear hn hv hc hm hs hx hx0
    generalize pss.length = n at *
    go_enter Tryz.func48, Tryz.ntmps48
    go_wp2_with fail
    refine H1.out.mono ?_
    rintro e w1 ⟨rfl, h1⟩
    go_wp2_with fail
    refine (H2.out _).mono ?_
    rintro e w2 ⟨rfl, h2⟩
    have HB := Lib.hid (bstep h1 h2)
    clear h1 h2
    go_wp2_with fail
    go_ret2
    exact ⟨rfl, HB.out⟩
  · have H1 := Lib.hid (allValid_any w a cap pss hc hm hs false (by simp; simpa using hv))
    clear hn hv hc hm hs hx
    generalize pss.length = n at *
    go_enter Tryz.func48, Tryz.ntmps48
    go_wp2_with fail
    refine H1.out.mono ?_
    rintro e w1 ⟨rfl, h1⟩
    have HB := Lib.hid h1
    clear h1
    go_wp2_with fail
    go_ret2
    exact ⟨rfl, HB.out⟩
/-- the outcome on valid programs and data -/
def TowP (pss : List (List Ins)) (x : ByteArray) (e : Ending) (ok no : Value) : Prop :=
  ((towB pss).length + x.size ≤ 2000000 ∧ e = .returned (.tuple #[.string (S (towB pss ++ x.data.toList)), ok])) ∨ (¬ (towB pss).length + x.size ≤ 2000000 ∧ e = .returned (.tuple #[.string ⟨#[]⟩, no]))
set_option maxHeartbeats 3200000 in
set_option maxRecDepth 100000 in
theorem Tower_yes (w : World) (a : Option Addr) (cap : Nat) (pss : List (List Ins)) (x : ByteArray) (hc : LsA w a pss) (hm : pss.length ≤ 6000000000000) (hv : ∀ p ∈ pss, PValid p) (hx : vld x.data.toList = true) :
    Calls Tryz.prog 48 #[.slice a pss.length cap, .string x] w fun e w' => TowP pss x e (.int .i64 0) (.int .i64 3) ∧ Below w.heap.size w w' := by
  have hxs := vld_size hx
  have H1 := Lib.hid (allValid_any w a cap pss hc hm (fun p hp => ⟨by have := (hv p hp).1; omega, fun y hy => by have := PV_tree_le (hv p hp) hy; omega⟩) true (by simp; exact hv))
  have H2 := Lib.hid (fun W => Valid_is true x W (by omega) hx)
  have HC := Lib.hid hc; have HV := Lib.hid hv
  have HXW := Lib.hid (fun B b l (W : World) h h1 h2 => WS B b l x.data.toList W h h1 h2)
  rw [show S x.data.toList = x from by simp [S], show x.data.toList.length = x.size from len_eq x] at HXW
  generalize hnn : pss.length = n at *
  have HN := Lib.hid hnn
  clear hnn hc hv hx
  go_enter Tryz.func48, Tryz.ntmps48
  go_wp2_with fail
  refine H1.out.mono ?_
  rintro e w1 ⟨rfl, h1⟩
  go_wp2_with fail
  refine (H2.out _).mono ?_
  rintro e w2 ⟨rfl, h2⟩
  have HB2 := Lib.hid (bstep h1 h2)
  have HBK := Lib.hid (heap_alloc_new w2 (.cells #[.pointer none, .slice none 0 0] 131))
  clear h1 h2
  go_wp2_with fail
  go_loopw [21] (fun i wr => ∃ k : Nat, k ≤ n ∧ i = .int .i64 k ∧ Hid (Lib.IsBuilder 131 5 w2.heap.size w2.heap.size (Lib.byteCells (towB (pss.take k))) wr) ∧ Hid ((towB (pss.take k)).length + x.size ≤ 2000000) ∧ Hid (Below w2.heap.size w2 wr)) (fun i _ => n - (intOf i).toNat)
  case atStart => exact ⟨0, Nat.zero_le _, rfl, Lib.hid (.inl ⟨Nat.le_refl _, _, HBK.out, World.ownsRow_nil _ _ _ _, by simp [Value.ownBlock]⟩), Lib.hid (by simpa [towB] using hxs), Lib.hid ((Below.refl _ w2).alloc (Nat.le_refl _) _)⟩
  case round =>
    clear HBK
    obtain ⟨k, hk, rfl, HI, HL, HB⟩ := hrel
    have HBW := Lib.hid (HB2.out.trans (HB.out.mono HB2.out.size))
    by_cases hlt : k < n
    · have hk1 : (k : Int) < (n : Int) := by omega
      obtain ⟨b, off, rfl, p, u, hp, hcell, hA⟩ := (HC.out.below HBW.out).at (k := k) (by rw [HN.out]; exact hlt)
      have HCD : Hid (Calls Tryz.prog 44 #[u] wr fun e w' => Below wr.heap.size wr w' ∧ (((enc (codes p)).length ≤ 2000000 ∧ e = .returned (.tuple #[.string (S (enc (codes p))), .int .i64 0])) ∨ (2000000 < (enc (codes p)).length ∧ e = .returned (.tuple #[.string ⟨#[]⟩, .int .i64 3])))) := Lib.hid ((PCode_arg wr u p hA (HV.out p (List.mem_of_getElem? hp))).mono fun e w' ⟨h1, h2⟩ => ⟨h2, h1⟩)
      have HF := Lib.hid (fun h => towB_fit (X := x.size) hp h)
      have HT := Lib.hid (towB_take hp)
      have HCW := Lib.hid (fun B b l (W : World) h h1 h2 => WS B b l (enc (codes p)) W h h1 h2)
      have hzs : (S (enc (codes p))).size = (enc (codes p)).length := S_size _
      obtain ⟨pa, pcap, rfl⟩ := hA.form
      clear hp hA
      generalize p.length = np at *
      generalize S (enc (codes p)) = z at *
      generalize enc (codes p) = c at *
      go_wp2_with fail
      refine HCD.out.mono ?_
      rintro e w3 ⟨h3, ⟨hl, rfl⟩ | ⟨hl, rfl⟩⟩
      · have HB3 := Lib.hid (HB.out.trans (h3.mono HB.out.size))
        have hI3 := isb_below HI.out h3
        have HL2 := HL.out
        clear HCD HI h3
        have HI3 := Lib.hid hI3
        clear hI3
        rw [← hzs] at hl HCW
        have HCL := Lib.hid hzs
        have HZS := Lib.hid hl
        obtain ⟨l, hll⟩ : ∃ l, l = towB (pss.take k) := ⟨_, rfl⟩
        rw [← hll] at HI3 HL2
        have HLL := Lib.hid hll
        clear hll hzs HL
        have hxm : x.size ≤ 2000000 := hxs
        by_cases hz : 2000000 ≤ l.length + z.size + x.size
        · have HNF := Lib.hid (HF.out (by rw [← HLL.out, ← HCL.out]; exact hz))
          have d1 : decide ((2000000 : Int) ≤ (l.length : Int) + (z.size : Int) + (x.size : Int)) = true := by rw [decide_eq_true_eq]; omega
          go_wp2_with fail
          refine (BLen _ _ l _ HI3.out).mono ?_
          rintro e w4 ⟨rfl, rfl⟩
          have hz1 : (2000000 : Int) ≤ (l.length : Int) + (z.size : Int) + (x.size : Int) := by omega
          generalize l.length = m at *
          go_wp2_with fail
          go_ret2
          exact ⟨.inr ⟨HNF.out, rfl⟩, HB2.out.trans (HB3.out.mono HB2.out.size)⟩
        · have hz1 : ¬ (2000000 : Int) ≤ (l.length : Int) + (z.size : Int) + (x.size : Int) := by omega
          have HW1 := Lib.hid (fun W h h2 => WB w2.heap.size w2.heap.size l 49 W h (by omega) h2)
          have HW2 := Lib.hid (fun W h h2 => HCW.out w2.heap.size w2.heap.size (l ++ [49]) W h (by rw [List.length_append, List.length_singleton]; omega) h2)
          have HLN : Hid ((l ++ [49] ++ c).length + x.size ≤ 2000000) := Lib.hid (by simp only [List.length_append, List.length_singleton]; have := HCL.out; omega)
          go_wp2_with fail
          refine (BLen _ _ l _ HI3.out).mono ?_
          rintro e w4 ⟨rfl, rfl⟩
          have hlm : l.length ≤ 2000000 := by omega
          generalize l.length = m at hz1 hlm HL2 ⊢
          have d1 : decide ((2000000 : Int) ≤ (m : Int) + (z.size : Int) + (x.size : Int)) = false := by rw [decide_eq_false_iff_not]; omega
          have hz2 : z.size ≤ 2000000 := HZS.out
          clear hz HL2
          go_wp2_with fail
          refine (HW1.out _ HI3.out HB3.out.size).mono ?_
          rintro e w5 ⟨rfl, hI5, h5⟩
          have HI5 := Lib.hid hI5; have HB5 := Lib.hid (HB3.out.trans h5)
          clear hI5 h5
          go_wp2_with fail
          refine (HW2.out _ HI5.out HB5.out.size).mono ?_
          rintro e w6 ⟨rfl, hI6, h6⟩
          have HI6 := Lib.hid hI6; have HB6 := Lib.hid (HB5.out.trans h6)
          clear hI6 h6
          go_wp2_with fail
          go_roundw
          case rel => exact ⟨k + 1, by omega, by go_num, Lib.hid (by rw [HT.out, ← HLL.out]; exact HI6.out), Lib.hid (by rw [HT.out, ← HLL.out]; exact HLN.out), HB6⟩
          case measure => simp [intOf]; omega
      · have HB3 := Lib.hid (HB.out.trans (h3.mono HB.out.size))
        have HNF := Lib.hid (HF.out (by omega))
        clear HCD h3
        go_wp2_with fail
        go_ret2
        exact ⟨.inr ⟨HNF.out, rfl⟩, HB2.out.trans (HB3.out.mono HB2.out.size)⟩
    · obtain rfl : k = n := by omega
      have HALL : Hid (towB (pss.take k) = towB pss) := Lib.hid (by rw [List.take_of_length_le (by rw [HN.out]; exact Nat.le_refl _)])
      rw [HALL.out] at HI HL
      have HLS := Lib.hid HL.out
      go_wp2_with fail
      refine (HXW.out _ _ (towB pss) _ HI.out (by have := HLS.out; omega) HB.out.size).mono ?_
      rintro e w3 ⟨rfl, hI3, h3⟩
      have HI3 := Lib.hid hI3; have HB3 := Lib.hid (HB.out.trans h3)
      clear hI3 h3
      go_wp2_with fail
      refine (Tryz.Builder_String_any w2.heap.size w2.heap.size (towB pss ++ x.data.toList) _ HI3.out HB3.out.size).mono ?_
      rintro e w4 ⟨rfl, h4⟩
      have HB4 := Lib.hid (HB3.out.trans h4)
      clear h4
      go_wp2_with fail
      go_ret2
      exact ⟨.inl ⟨HLS.out, rfl⟩, HB2.out.trans (HB4.out.mono HB2.out.size)⟩
end Go.Proofs.YtmhoacnbmbhcjaaGreatDoor
