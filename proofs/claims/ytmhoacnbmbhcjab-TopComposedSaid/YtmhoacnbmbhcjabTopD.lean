/- The statement TopComposed, of any arguments; an Input that comes in. By an AI agent. -/
import Derived.Test.YtmhoacnbmbhcjabTopC
import Derived.Test.YtmhoacnbmbhcjabOpenQ
namespace Go.Proofs.Ytmhoacnbmbhcjab
open Go.ChangeShapes Go.WideShapes Go.Deep Go.RowKit Pl

set_option maxHeartbeats 1600000 in
set_option maxRecDepth 100000 in
theorem composed_out (w : World) (vc vp vq : Value) (d : List UInt8) (c p q : List Ins) (hc : ArgP w vc c) (hp : ArgP w vp p) (hq : ArgP w vq q) (sc : SizeP c) (sp : SizeP p) (sq : SizeP q) (hn : ¬ (FewP [c, p, q] ∧ isT d ∧ d.length ≤ 2000)) :
    Calls Try.prog 10 #[vc, vp, .agg #[vq, .string (S d)]] w fun e w' => e = .returned (.bool true) ∧ Below w.heap.size w w' := by
  have HG := Lib.hid (fun W => grow_all d 2000 W (by omega))
  obtain ⟨r, hr⟩ := few_bool [c, p, q]
  have HFW := Lib.hid (fun W b cap h => few_any W b 0 cap [c, p, q] r h (by simp) (by intro q' hq'; simp only [List.mem_cons, List.not_mem_nil, or_false] at hq'; rcases hq' with rfl | rfl | rfl; exact sc; exact sp; exact sq) hr)
  have HAC := Lib.hid hc; have HAP := Lib.hid hp; have HAQ := Lib.hid hq; have HN := Lib.hid hn; have HR := Lib.hid hr
  obtain ⟨ac, cc, rfl⟩ := hc.form
  obtain ⟨ap, cp, rfl⟩ := hp.form
  obtain ⟨aq, cq, rfl⟩ := hq.form
  clear hc hp hq sc sp sq hn hr
  generalize c.length = lc at *
  generalize p.length = lp at *
  generalize q.length = lq at *
  have HIN := Lib.hid (alloc_below w (.cells #[.slice aq lq cq, .string (S d)] 64))
  go_enter Try.func10, Try.ntmps10
  go_wp2_with fail
  refine (HG.out _).mono ?_
  rintro e w1 ⟨h1, ⟨t1, v1, ht1, hl1, rfl, hn1⟩ | ⟨hno, rfl⟩⟩
  · have HRF : Hid (r = false) := Lib.hid (by
      cases r with
      | false => rfl
      | true => exact absurd ⟨HR.out.1 rfl, ⟨t1, ht1⟩, hl1⟩ HN.out)
    obtain ⟨X, rfl⟩ := hn1.one
    have B1 := Lib.hid (bstep HIN.out h1)
    clear hn1 h1 ht1 hl1
    have L2 := Lib.hid (lit_pieces w1 [.slice ac lc cc, .slice ap lp cp, .slice aq lq cq] [c, p, q] ⟨HAC.out.below B1.out, HAP.out.below B1.out, HAQ.out.below B1.out, trivial⟩)
    have B2 := Lib.hid (bstep B1.out (alloc_below w1 (.cells #[.slice ac lc cc, .slice ap lp cp, .slice aq lq cq] 23)))
    rw [HRF.out] at HFW
    go_wp2_with fail
    refine (HFW.out _ _ 3 L2.out).mono ?_
    rintro e w3 ⟨rfl, h3⟩
    have B3 := Lib.hid (bstep B2.out h3)
    clear h3 L2
    go_wp2_with fail
    refine (composes_any _).mono ?_
    rintro e u5 ⟨rfl, k5⟩
    have C5 := Lib.hid (bstep B3.out k5)
    clear k5
    go_wp2_with fail
    go_ret
    exact ⟨rfl, C5.out⟩
  · have B1 := Lib.hid (bstep HIN.out h1)
    clear h1 hno
    have L2 := Lib.hid (lit_pieces w1 [.slice ac lc cc, .slice ap lp cp, .slice aq lq cq] [c, p, q] ⟨HAC.out.below B1.out, HAP.out.below B1.out, HAQ.out.below B1.out, trivial⟩)
    have B2 := Lib.hid (bstep B1.out (alloc_below w1 (.cells #[.slice ac lc cc, .slice ap lp cp, .slice aq lq cq] 23)))
    cases r with
    | false =>
      go_wp2_with fail
      refine (HFW.out _ _ 3 L2.out).mono ?_
      rintro e w3 ⟨rfl, h3⟩
      have B3 := Lib.hid (bstep B2.out h3)
      clear h3 L2
      go_wp2_with fail
      refine (composes_any _).mono ?_
      rintro e u5 ⟨rfl, k5⟩
      have C5 := Lib.hid (bstep B3.out k5)
      clear k5
      go_wp2_with fail
      go_ret
      exact ⟨rfl, C5.out⟩
    | true =>
      go_wp2_with fail
      refine (HFW.out _ _ 3 L2.out).mono ?_
      rintro e w3 ⟨rfl, h3⟩
      have B3 := Lib.hid (bstep B2.out h3)
      clear h3 L2
      go_wp2_with fail
      refine (composes_any _).mono ?_
      rintro e u5 ⟨rfl, k5⟩
      have C5 := Lib.hid (bstep B3.out k5)
      clear k5
      go_wp2_with fail
      go_ret
      exact ⟨rfl, C5.out⟩
theorem TopComposed_any (w : World) (vc vp vq : Value) (s : ByteArray) (c p q : List Ins) (hc : ArgP w vc c) (lc : c.length ≤ 281474976710656) (zc : ∀ x ∈ c, x.tree.length ≤ 281474976710656) (hp : ArgP w vp p) (lp : p.length ≤ 281474976710656) (zp : ∀ x ∈ p, x.tree.length ≤ 281474976710656) (hq : ArgP w vq q) (lq : q.length ≤ 281474976710656) (zq : ∀ x ∈ q, x.tree.length ≤ 281474976710656) :
    Calls Try.prog 10 #[vc, vp, .agg #[vq, .string s]] w fun e w' => e = .returned (.bool true) ∧ Below w.heap.size w w' := by
  have e : S s.data.toList = s := by simp [S]
  rw [← e]
  generalize s.data.toList = d
  by_cases hn : FewP [c, p, q] ∧ isT d ∧ d.length ≤ 2000
  · obtain ⟨h1, ⟨x, hx⟩, h3⟩ := hn
    exact composed_in w vc vp vq d c p q hc hp hq (h1 c (by simp)) (h1 p (by simp)) (h1 q (by simp)) x hx h3
  · exact composed_out w vc vp vq d c p q hc hp hq ⟨lc, zc⟩ ⟨lp, zp⟩ ⟨lq, zq⟩ hn
theorem cellsPrg : Try.prog.cellsOf 23 = 1 := by kernel_rfl
theorem cellsInp : Try.prog.cellsOf 64 = 2 := by kernel_rfl
theorem open_input {H : Type} {enc : TypeId × Value → H} {W : World} {fuel : Nat} {cs : List Value} {x : DataW H × List MemPlace}
    (h : DataW.trod enc Try.prog W 0 (fun _ => true) true fuel 64 cs = some x) (hlt : ∀ y ∈ x.2, y.block < W.heap.size)
    (hs : ∀ n ∈ x.1.weights Try.prog 64, n ≤ 140737488351232) :
    ∃ (pv : Value) (s : ByteArray) (ps : List Ins), cs = [pv, .string s] ∧ ArgP W pv ps ∧ ps.length * 48 ≤ 140737488351232 ∧ ∀ y ∈ ps, y.tree.length ≤ 140737488351232 := by
  obtain ⟨xs, n, _, rfl, hl, hlen, hf⟩ := DataW.trod_struct Try.underlying64 h
  rw [cellsInp] at hl
  obtain ⟨c0, c1, rfl⟩ : ∃ c0 c1, cs = [c0, c1] := by
    rcases cs with _ | ⟨c0, _ | ⟨c1, _ | ⟨c2, r⟩⟩⟩ <;> simp at hl
    exact ⟨c0, c1, rfl⟩
  obtain ⟨x0, x1, rfl⟩ : ∃ x0 x1, xs = [x0, x1] := by
    rcases xs with _ | ⟨x0, _ | ⟨x1, _ | ⟨x2, r⟩⟩⟩ <;> simp at hlen
    exact ⟨x0, x1, rfl⟩
  have h0 := hf 0 { name := "Program", type := 23, offset := 0, embedded := false, tag := "", pkgPath := "", byteOffset := 0 } rfl
  have h1 := hf 1 { name := "Tree", type := 9, offset := 1, embedded := false, tag := "", pkgPath := "", byteOffset := 24 } rfl
  simp only [cellsPrg, cellsStr, List.drop_zero, List.drop_succ_cons, List.take_succ_cons, List.take_zero, List.getElem?_cons_zero, List.getElem?_cons_succ] at h0 h1
  obtain ⟨s, e1, hd1, _⟩ := DataW.trod_string Try.underlying9 h1
  simp only [List.cons.injEq, and_true] at e1
  subst e1
  obtain ⟨a0, l0, k0, rfl⟩ : ∃ a l k, c0 = .slice a l k := by
    rcases open_slice Try.underlying23 h0 with ⟨hcs, _⟩ | ⟨a, len', cap', m, n, D, Pl, hcs, _⟩
    · simp at hcs; exact ⟨_, _, _, hcs⟩
    · simp at hcs; exact ⟨_, _, _, hcs⟩
  obtain ⟨ps, h2, h3, h4⟩ := open_prog h0 (fun y hy => hlt y (by simp [hy])) (fun n hn => hs n (by
    simp only [DataW.weights, Try.underlying64]
    simp [DataW.weightsEach, hn]))
  exact ⟨_, s, ps, rfl, h3, h2, h4⟩
end Go.Proofs.Ytmhoacnbmbhcjab
