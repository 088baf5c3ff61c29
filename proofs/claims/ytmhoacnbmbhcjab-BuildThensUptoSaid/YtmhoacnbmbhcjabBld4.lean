/- The law's awake: the examples of the chapter. By an AI agent. -/
import Derived.Test.YtmhoacnbmbhcjabRunB
import Derived.Test.YtmhoacnbmbhcjabPrg
import Derived.Laws.AppendOwnNone
import Derived.Lib.AppendZeros
import Derived.Test.YtmhoacnbmbhcjabMth
import Derived.Outline
import Derived.Test.YtmhoacnbmbhcjabRegionInv
namespace Go.Proofs.Ytmhoacnbmbhcjab
open Go.RowKit Pl

theorem add_at (g j : Nat) : (⟨g, 0, none⟩ : Addr).add j = ⟨g, j, none⟩ := by
  cases j with
  | zero => rfl
  | succ j => simp [Addr.add]
/-- a program that has just been written down -/
theorem lit_prog (w : World) (ps : List Ins) (h0 : 0 < ps.length) : ArgP (w.alloc (.cells (progV ps).toArray 39)) (.slice (some ⟨w.heap.size, 0, none⟩) ps.length ps.length) ps :=
  .inr ⟨h0, _, 0, _, rfl, progAt_of (by simp) fun j u hu => by
    rw [add_at, World.cell?_alloc_new]
    simpa using hu⟩
theorem S_list (l : List UInt8) : (S l).data.toList = l := by simp
end Go.Proofs.Ytmhoacnbmbhcjab

namespace Go.Proofs.Ytmhoacnbmbhcjab
open Go.RowKit Pl

theorem ArgP.form {w : World} {v : Value} {ps : List Ins} (h : ArgP w v ps) : ∃ a cap, v = .slice a ps.length cap := by
  rcases h with ⟨rfl, rfl | ⟨ad, cap, rfl⟩⟩ | ⟨_, b, off, cap, rfl, _⟩
  · exact ⟨_, _, rfl⟩
  · exact ⟨_, _, rfl⟩
  · exact ⟨_, _, rfl⟩
/-- programs one after the other in a slice's cells -/
structure PiecesAt (w : World) (b off : Nat) (pss : List (List Ins)) : Prop where
  lt : b < w.heap.size
  piece : ∀ k p, pss[k]? = some p → ∃ v, w.cell? ⟨b, off + k, none⟩ = some v ∧ ArgP w v p
theorem PiecesAt.below {w w1 : World} {b off : Nat} {pss : List (List Ins)} (h : PiecesAt w b off pss) (hb : Below w.heap.size w w1) : PiecesAt w1 b off pss :=
  ⟨Nat.lt_of_lt_of_le h.lt hb.size, fun k p hk => by
    obtain ⟨v, h1, h2⟩ := h.piece k p hk
    exact ⟨v, by rw [hb.cell (p := ⟨b, off + k, none⟩) h.lt]; exact h1, h2.below hb⟩⟩
def flatTo (pss : List (List Ins)) (k : Nat) : List Ins := (pss.take k).flatten
theorem flatTo_succ {pss : List (List Ins)} {k : Nat} {p : List Ins} (h : pss[k]? = some p) : flatTo pss (k + 1) = flatTo pss k ++ p := by
  obtain ⟨hk, rfl⟩ := List.getElem?_eq_some_iff.1 h
  unfold flatTo
  rw [List.take_succ_eq_append_getElem hk, List.flatten_append]; simp
theorem flatTo_all {pss : List (List Ins)} {k : Nat} (h : pss.length ≤ k) : flatTo pss k = pss.flatten := by unfold flatTo; rw [List.take_of_length_le h]
theorem flatTo_le (pss : List (List Ins)) (k : Nat) : (flatTo pss k).length ≤ pss.flatten.length := by
  have : pss.flatten = flatTo pss k ++ (pss.drop k).flatten := by
    unfold flatTo; rw [← List.flatten_append, List.take_append_drop]
  rw [this, List.length_append]; omega
theorem piece_at {pss : List (List Ins)} {k : Nat} (h : k < pss.length) : ∃ x, pss[k]? = some x := ⟨pss[k], List.getElem?_eq_getElem h⟩

/-- a program behind a row of one's own -/
theorem wpList_app_prog {w : World} {ops : Array Oper} {rest : List Oper} {o : Oper} {a : Act} {Q : Exit → Act → World → Prop} (hgd : o.guard = none) (s x : Operand)
    (ho : o.op = .call { callee := .builtin .append, args := #[s, x], argTypes := #[23, 23] })
    (base : Nat) (v : Value) (n : Nat) (xs : List Value) (hs : a.eval s = v) (hown : w.ownsRow base 39 5 v n xs) (u : Value) (hx : a.eval x = u) (ps : List Ins) (hA : ArgP w u ps)
    (hbytes : (n + ps.length) * 48 ≤ 140737488355328) (hbase : base ≤ w.heap.size)
    (h : ∀ v' w', w'.ownsRow base 39 5 v' (n + ps.length) (xs ++ progV ps) → w.grownBy w' v.ownBlock → wpList Try.prog ops Q rest (a.put o.dst v') w') :
    wpList Try.prog ops Q (o :: rest) a w := by
  obtain ⟨i0, hi, hz0, hz1, hz2⟩ := info_parts Try.infoIns
  have key : ∀ (ad : Addr) (cap : Nat), u = .slice (some ad) ps.length cap → (∀ j y, (progV ps)[j]? = some y → w.cell? (ad.add j) = some y) → wpList Try.prog ops Q (o :: rest) a w := by
    intro ad cap hu hc
    refine wpList_append_own w hgd s x 23 ho base 39 i0 (.agg #[.int .i64 0, .int .i64 0, .int .i64 0, .int .i64 0, .string ⟨#[]⟩]) 5 48 Try.underlying23 hi hz0 hz1 hz2 rfl (by decide) v n xs hs hown ad ps.length cap (progV ps) (hx.trans hu) (progV_len ps) hc (progV_oneCell ps) (by unfold maxLen; omega) (by omega) hbase ?_
    intro v' w' h1 h2 _
    exact h v' w' h1 h2
  rcases hA with ⟨rfl, rfl | ⟨ad, cap, rfl⟩⟩ | ⟨_, b, off, cap, rfl, hc⟩
  · refine wpList_append_own_none hgd s x 23 ho base 39 i0 5 Try.underlying23 hi v n xs hs hown hx ?_
    refine h v w ?_ ⟨rfl, rfl, rfl, Nat.le_refl _, fun _ _ _ => rfl⟩
    simpa [progV] using hown
  · exact key ad cap rfl (fun j y hy => by simp [progV] at hy)
  · exact key ⟨b, off, none⟩ cap rfl hc.cell

set_option maxHeartbeats 800000 in
set_option maxRecDepth 100000 in
theorem Grow_nil (w : World) (n : Nat) (hn : n * 48 ≤ 140737488355328) :
    Calls Try.prog 97 #[.slice none 0 0, .int .i64 n] w fun e w' => ∃ v, e = .returned v ∧ w'.ownsRow w.heap.size 39 5 v 0 [] ∧ Below w.heap.size w w' := by
  obtain ⟨i0, hi, hz0, hz1, hz2⟩ := info_parts Try.infoIns
  rcases Nat.eq_zero_or_pos n with rfl | h0
  · clear hi hz0 hz1 hz2 hn
    go_enter Try.func97, Try.ntmps97
    go_wp2
    go_ret
    exact ⟨_, rfl, World.ownsRow_nil _ _ _ _, Below.refl _ _⟩
  · have h1 : ¬ ((n : Int) < 0) := by omega
    have h4 : (0 : Int) < (n : Int) := by omega
    have hr := fun ty => Lib.run_append_nil_zeros (P := Try.prog) w 23 3 ty 39 i0 (.agg #[.int .i64 0, .int .i64 0, .int .i64 0, .int .i64 0, .string ⟨#[]⟩]) .i64 .i64 Try.underlying23 Try.underlying3 hi hz0 n h0 (by omega) (by omega) (by rw [hz2]; omega)
    have hG := grownCap_ge w n 0 39
    have hGm := grownCap_le_maxLen w n 0 39 (by unfold maxLen; omega)
    generalize grownCap w n 0 39 = G at *
    have HR := Lib.hid hr
    have hGs : G ≤ 9223372036854775807 := by unfold maxLen at hGm; omega
    have hsz : (Builtin.zeroCells (Value.agg #[.int .i64 0, .int .i64 0, .int .i64 0, .int .i64 0, .string ⟨#[]⟩]).cells n ++ Builtin.zeroCells (Value.agg #[.int .i64 0, .int .i64 0, .int .i64 0, .int .i64 0, .string ⟨#[]⟩]).cells (G - n)).size = G * 5 := by
      rw [Array.size_append, size_zeroCells, size_zeroCells]
      show n * 5 + (G - n) * 5 = G * 5
      omega
    generalize hcur : (Builtin.zeroCells (Value.agg #[.int .i64 0, .int .i64 0, .int .i64 0, .int .i64 0, .string ⟨#[]⟩]).cells n ++ Builtin.zeroCells (Value.agg #[.int .i64 0, .int .i64 0, .int .i64 0, .int .i64 0, .string ⟨#[]⟩]).cells (G - n)) = cur at *
    have HO := Lib.hid (World.ownsRow_made (base := w.heap.size) (e := 39) (size := 5) w.drew cur G (Nat.le_refl _) hGm hsz)
    have HB : Below w.heap.size w (w.drew.alloc (.cells cur 39)) := (Below.refl _ _).drew.alloc (Nat.le_refl _) _
    have HB := Lib.hid HB
    clear hr hi hz0 hz1 hz2 hn hsz hcur hGm
    go_enter Try.func97, Try.ntmps97
    go_wp2_with (at_builtin; refine Lib.wpList_append_run _ rfl _ _ _ _ rfl _ _ rfl rfl _ _ (HR.out _) ?_)
    go_ret
    exact ⟨_, rfl, HO.out, HB.out⟩
set_option maxHeartbeats 1600000 in
set_option maxRecDepth 100000 in
theorem Concat_any (w : World) (b off cap : Nat) (pss : List (List Ins)) (hc : PiecesAt w b off pss) (hm : pss.length ≤ 281474976710656) (hz : pss.flatten.length * 48 ≤ 140737488355328) :
    Calls Try.prog 68 #[.slice (some ⟨b, off, none⟩) pss.length cap] w fun e w' => ∃ v, e = .returned v ∧ w'.ownsRow w.heap.size 39 5 v pss.flatten.length (progV pss.flatten) ∧ Below w.heap.size w w' := by
  generalize hnn : pss.length = n at *
  generalize htt : pss.flatten.length = T at *
  have HN := Lib.hid hnn; have HC := Lib.hid hc; have HLE := Lib.hid (flatTo_le pss); have HT := Lib.hid htt
  have HG := Lib.hid (fun W => Grow_nil W T hz)
  have hT : T ≤ 281474976710656 := by omega
  have HZ := Lib.hid hz
  clear hnn hc htt hz
  go_enter Try.func68, Try.ntmps68
  go_wp2
  go_loop [3, 11] (fun t i => ∃ k : Nat, k ≤ n ∧ i = .int .i64 k ∧ ∃ s : Nat, t = .int .i64 s ∧ s ≤ T ∧ Hid ((flatTo pss k).length = s)) (fun _ i => n - (intOf i).toNat)
  case atStart => exact ⟨0, Nat.zero_le _, rfl, 0, rfl, Nat.zero_le _, Lib.hid (by simp [flatTo])⟩
  case round =>
    obtain ⟨k, hk, rfl, s, rfl, hs, hfs⟩ := hrel
    by_cases hlt : k < n
    · obtain ⟨p, hp⟩ := piece_at (pss := pss) (k := k) (by rw [HN.out]; exact hlt)
      obtain ⟨u, hcell, hA⟩ := HC.out.piece k p hp
      obtain ⟨pa, pcap, rfl⟩ := hA.form
      have hs2 : s + p.length ≤ T := by
        have h1 := HLE.out (k + 1)
        rw [flatTo_succ hp, List.length_append, hfs.out] at h1
        have := HT.out
        omega
      have HF : Hid ((flatTo pss (k + 1)).length = s + p.length) := Lib.hid (by rw [flatTo_succ hp, List.length_append, hfs.out])
      clear hp hA
      generalize p.length = q at *
      have h3 : ¬ ((s : Int) + (q : Int) < 0) := by omega
      go_wp2
      go_round
      case rel => exact ⟨k + 1, by omega, by go_num, s + q, by go_num, by omega, HF⟩
      case measure => simp [intOf]; omega
    · obtain rfl : k = n := by omega
      have HS : Hid (s = T) := Lib.hid (by rw [← hfs.out, flatTo_all (by rw [HN.out]; exact Nat.le_refl _)]; exact HT.out)
      obtain rfl := HS.out
      go_wp2_with fail
      refine (HG.out _).mono ?_
      rintro e w1 ⟨v1, rfl, ho1, hb1⟩
      have HO1 := Lib.hid ho1
      clear ho1
      go_wp2_with fail
      go_loopw [6, 27] (fun v i wr => ∃ j : Nat, j ≤ k ∧ i = .int .i64 j ∧ Hid (wr.ownsRow w.heap.size 39 5 v (flatTo pss j).length (progV (flatTo pss j))) ∧ Below w.heap.size w wr) (fun _ i _ => k - (intOf i).toNat)
      case atStart => exact ⟨0, Nat.zero_le _, rfl, HO1, hb1⟩
      case round =>
        clear HO1 hb1
        obtain ⟨j, hj, rfl, HO, hb⟩ := hrel
        have hsz := hb.size
        by_cases hjl : j < k
        · obtain ⟨p, hp⟩ := piece_at (pss := pss) (k := j) (by rw [HN.out]; exact hjl)
          obtain ⟨u, hcell, hA⟩ := (HC.out.below hb).piece j p hp
          have HA := Lib.hid hA
          have hs2 : (flatTo pss j).length + p.length ≤ s := by
            have h1 := HLE.out (j + 1)
            rw [flatTo_succ hp, List.length_append] at h1
            have := HT.out
            omega
          have HF := Lib.hid (flatTo_succ hp)
          have hjk : (j : Int) < (k : Int) := by omega
          clear hp hA
          go_wp2_with (at_builtin; refine wpList_app_prog rfl _ _ rfl w.heap.size _ (flatTo pss j).length (progV (flatTo pss j)) rfl HO.out _ rfl p HA.out (by have := HZ.out; omega) hsz ?_; intro v' w' hown hgrow)
          have HB : Below w.heap.size w w' := hb.grown hgrow hsz (fun g h => (HO.out.lt g h).1)
          rw [← progV_app, ← List.length_append, ← HF.out] at hown
          have HW := Lib.hid hown
          clear hown hgrow hb HO
          go_wp2_with fail
          go_roundw
          case rel => exact ⟨j + 1, by omega, by go_num, HW, HB⟩
          case measure => simp [intOf]; omega
        · obtain rfl : j = k := by omega
          have HF : Hid (flatTo pss j = pss.flatten) := Lib.hid (flatTo_all (by rw [HN.out]; exact Nat.le_refl _))
          rw [HF.out, HT.out] at HO
          go_wp2_with fail
          go_ret
          exact ⟨_, rfl, HO.out, hb⟩
/-- the greatest number -/
def maxL (l : List Nat) : Nat := l.foldl max 0
def NumsAt (w : World) (b off : Nat) (l : List Nat) : Prop := b < w.heap.size ∧ ∀ (k x : Nat), l[k]? = some x → w.cell? ⟨b, off + k, none⟩ = some (.int .i64 (x : Int))
theorem NumsAt.below {w w1 : World} {b off : Nat} {l : List Nat} (h : NumsAt w b off l) (hb : Below w.heap.size w w1) : NumsAt w1 b off l :=
  ⟨Nat.lt_of_lt_of_le h.1 hb.size, fun k x hk => by rw [hb.cell (p := ⟨b, off + k, none⟩) h.1]; exact h.2 k x hk⟩
def maxTo (l : List Nat) (k : Nat) : Nat := (l.take k).foldl max 0
theorem maxTo_succ {l : List Nat} {k x : Nat} (h : l[k]? = some x) : maxTo l (k + 1) = max (maxTo l k) x := by
  obtain ⟨hk, rfl⟩ := List.getElem?_eq_some_iff.1 h
  unfold maxTo
  rw [List.take_succ_eq_append_getElem hk, List.foldl_append]; rfl
set_option maxHeartbeats 800000 in
set_option maxRecDepth 100000 in
theorem Max_any (w : World) (b off cap : Nat) (l : List Nat) (hc : NumsAt w b off l) (h0 : 0 < l.length) (hm : l.length ≤ 281474976710656) (hs : ∀ x ∈ l, x ≤ 32) :
    Calls Try.prog 64 #[.slice (some ⟨b, off, none⟩) l.length cap] w fun e w' => e = .returned (.int .i64 (maxL l : Nat)) ∧ Below w.heap.size w w' := by
  obtain ⟨x0, hx0⟩ : ∃ x, l[0]? = some x := ⟨l[0], List.getElem?_eq_getElem h0⟩
  have c0 : w.cell? ⟨b, off, none⟩ = some (.int .i64 (x0 : Int)) := hc.2 0 x0 hx0
  have HS0 : Hid (maxTo l 1 = x0) := Lib.hid (by rw [maxTo_succ hx0]; simp [maxTo])
  have hx32 := hs x0 (List.mem_of_getElem? hx0)
  generalize hnn : l.length = n at *
  have HN := Lib.hid hnn; have HC := Lib.hid hc; have HS := Lib.hid hs
  clear hnn hc hs hx0
  have hn1 : ¬ ((n : Int) < 1) := by omega
  have hn2 : (0 : Int) < (n : Int) := by omega
  go_enter Try.func64, Try.ntmps64
  go_wp2
  go_loopw [3, 4] (fun m i wr => ∃ k : Nat, 1 ≤ k ∧ k ≤ n ∧ i = .int .i64 k ∧ (∃ u : Nat, m = .int .i64 (u : Int) ∧ u ≤ 32 ∧ Hid (maxTo l k = u)) ∧ ∃ q, wr = w.drewN q) (fun _ i _ => n - (intOf i).toNat)
  case atStart => exact ⟨1, Nat.le_refl _, h0, rfl, ⟨x0, rfl, hx32, HS0⟩, 0, rfl⟩
  case round =>
    obtain ⟨k, hk1, hk, rfl, ⟨u, rfl, hu, HU⟩, q, rfl⟩ := hrel
    by_cases hlt : k < n
    · obtain ⟨x, hx⟩ : ∃ x, l[k]? = some x := ⟨l[k]'(by rw [HN.out]; exact hlt), List.getElem?_eq_getElem _⟩
      have c1 := HC.out.2 k x hx
      have hx3 := HS.out x (List.mem_of_getElem? hx)
      have HM : Hid (maxTo l (k + 1) = max u x) := Lib.hid (by rw [maxTo_succ hx, HU.out])
      clear hx c0
      rcases Nat.lt_or_ge u x with hlt2 | hlt2
      · have e1 : (u : Int) < (x : Int) := by omega
        have HM2 : Hid (maxTo l (k + 1) = x) := Lib.hid (by rw [HM.out]; omega)
        go_wp2
        go_roundw
        case rel => exact ⟨k + 1, by omega, by omega, by go_num, ⟨x, by go_num, by omega, HM2⟩, _, rfl⟩
        case measure => simp [intOf]; omega
      · have e1 : ¬ ((u : Int) < (x : Int)) := by omega
        have HM2 : Hid (maxTo l (k + 1) = u) := Lib.hid (by rw [HM.out]; omega)
        go_wp2
        go_roundw
        case rel => exact ⟨k + 1, by omega, by omega, by go_num, ⟨u, by go_num, by omega, HM2⟩, _, rfl⟩
        case measure => simp [intOf]; omega
    · obtain rfl : k = n := by omega
      have HF : Hid (maxL l = u) := Lib.hid (by rw [← HU.out]; unfold maxTo maxL; rw [List.take_of_length_le (by rw [HN.out]; exact Nat.le_refl _)])
      go_wp2
      go_ret
      exact ⟨ret_int (by rw [HF.out]), bdrewN (Below.refl _ _) _⟩
end Go.Proofs.Ytmhoacnbmbhcjab

namespace Go.Proofs.Ytmhoacnbmbhcjab
open Go.RowKit Pl

/-- a program in memory of one's own -/
def OwnP (w : World) (B : Nat) (v : Value) (ps : List Ins) : Prop := w.ownsRow B 39 5 v ps.length (progV ps)
theorem OwnP.arg {w : World} {B : Nat} {v : Value} {ps : List Ins} (h : OwnP w B v ps) : ArgP w v ps := (own_prog h).2.1
theorem OwnP.below {w w1 : World} {B : Nat} {v : Value} {ps : List Ins} (h : OwnP w B v ps) (hb : Below w.heap.size w w1) : OwnP w1 B v ps := own_below h hb
def ArgsP (w : World) : List Value → List (List Ins) → Prop
  | [], [] => True
  | v :: vs, p :: ps => ArgP w v p ∧ ArgsP w vs ps
  | _, _ => False
theorem ArgsP.get {w : World} : ∀ {vs : List Value} {pss : List (List Ins)}, ArgsP w vs pss → ∀ (k : Nat) (p : List Ins), pss[k]? = some p → ∃ v, vs[k]? = some v ∧ ArgP w v p
  | [], [], _, k, p, hp => by simp at hp
  | v :: vs, q :: ps, h, k, p, hp => by
    cases k with
    | zero => simp at hp; subst hp; exact ⟨v, rfl, h.1⟩
    | succ k => exact ArgsP.get h.2 k p (by simpa using hp)
theorem ArgsP.below {w w1 : World} (hb : Below w.heap.size w w1) : ∀ {vs : List Value} {pss : List (List Ins)}, ArgsP w vs pss → ArgsP w1 vs pss
  | [], [], _ => trivial
  | _ :: _, _ :: _, h => ⟨h.1.below hb, ArgsP.below hb h.2⟩
theorem alloc_below (w : World) (o : Obj) : Below w.heap.size w (w.alloc o) := (Below.refl _ _).alloc (Nat.le_refl _) o
/-- pieces that have just been written down -/
theorem lit_pieces (w : World) (vs : List Value) (pss : List (List Ins)) (h : ArgsP w vs pss) : PiecesAt (w.alloc (.cells vs.toArray 23)) w.heap.size 0 pss :=
  ⟨by simp, fun k p hk => by
    obtain ⟨v, h1, h2⟩ := h.get k p hk
    refine ⟨v, ?_, h2.below (alloc_below _ _)⟩
    rw [World.cell?_alloc_new]
    simpa using h1⟩

set_option maxHeartbeats 800000 in
set_option maxRecDepth 100000 in
theorem bset_is (a : Int) (s : ByteArray) (w : World) : Calls Try.prog 63 #[.int .i64 a, .string s] w fun e w' => e = .returned (.agg #[.int .i64 0, .int .i64 a, .int .i64 0, .int .i64 0, .string s]) ∧ Below w.heap.size w w' := by
  go_enter Try.func63, Try.ntmps63
  go_wp2
  exact bodyPost_ret (v := .agg #[.int .i64 0, .int .i64 a, .int .i64 0, .int .i64 0, .string s]) (by simp [results, Try.f63, go_sem]) rfl ⟨rfl, alloc_below _ _⟩
set_option maxHeartbeats 800000 in
set_option maxRecDepth 100000 in
theorem bmove_is (a b : Int) (w : World) : Calls Try.prog 65 #[.int .i64 a, .int .i64 b] w fun e w' => e = .returned (.agg #[.int .i64 1, .int .i64 a, .int .i64 b, .int .i64 0, .string ⟨#[]⟩]) ∧ Below w.heap.size w w' := by
  go_enter Try.func65, Try.ntmps65
  go_wp2
  exact bodyPost_ret (v := .agg #[.int .i64 1, .int .i64 a, .int .i64 b, .int .i64 0, .string ⟨#[]⟩]) (by simp [results, Try.f65, go_sem]) rfl ⟨rfl, alloc_below _ _⟩
set_option maxHeartbeats 800000 in
set_option maxRecDepth 100000 in
theorem bjump_is (a b : Int) (w : World) : Calls Try.prog 70 #[.int .i64 a, .int .i64 b] w fun e w' => e = .returned (.agg #[.int .i64 5, .int .i64 a, .int .i64 b, .int .i64 0, .string ⟨#[]⟩]) ∧ Below w.heap.size w w' := by
  go_enter Try.func70, Try.ntmps70
  go_wp2
  exact bodyPost_ret (v := .agg #[.int .i64 5, .int .i64 a, .int .i64 b, .int .i64 0, .string ⟨#[]⟩]) (by simp [results, Try.f70, go_sem]) rfl ⟨rfl, alloc_below _ _⟩
set_option maxHeartbeats 800000 in
set_option maxRecDepth 100000 in
theorem bcons_is (a b c : Int) (w : World) : Calls Try.prog 67 #[.int .i64 a, .int .i64 b, .int .i64 c] w fun e w' => e = .returned (.agg #[.int .i64 2, .int .i64 a, .int .i64 b, .int .i64 c, .string ⟨#[]⟩]) ∧ Below w.heap.size w w' := by
  go_enter Try.func67, Try.ntmps67
  go_wp2
  exact bodyPost_ret (v := .agg #[.int .i64 2, .int .i64 a, .int .i64 b, .int .i64 c, .string ⟨#[]⟩]) (by simp [results, Try.f67, go_sem]) rfl ⟨rfl, alloc_below _ _⟩
set_option maxHeartbeats 800000 in
set_option maxRecDepth 100000 in
theorem rset_is (a : Int) (s : ByteArray) (w : World) : Calls Try.prog 71 #[.int .i64 a, .string s] w fun e w' => e = .returned (.agg #[.int .i64 0, .int .i64 a, .int .i64 0, .int .i64 0, .string s]) ∧ Below w.heap.size w w' := by
  go_enter Try.func71, Try.ntmps71
  go_wp2
  exact bodyPost_ret (v := .agg #[.int .i64 0, .int .i64 a, .int .i64 0, .int .i64 0, .string s]) (by simp [results, Try.f71, go_sem]) rfl ⟨rfl, alloc_below _ _⟩
set_option maxHeartbeats 800000 in
set_option maxRecDepth 100000 in
theorem rmove_is (a b : Int) (w : World) : Calls Try.prog 74 #[.int .i64 a, .int .i64 b] w fun e w' => e = .returned (.agg #[.int .i64 1, .int .i64 a, .int .i64 b, .int .i64 0, .string ⟨#[]⟩]) ∧ Below w.heap.size w w' := by
  go_enter Try.func74, Try.ntmps74
  go_wp2
  exact bodyPost_ret (v := .agg #[.int .i64 1, .int .i64 a, .int .i64 b, .int .i64 0, .string ⟨#[]⟩]) (by simp [results, Try.f74, go_sem]) rfl ⟨rfl, alloc_below _ _⟩
set_option maxHeartbeats 800000 in
set_option maxRecDepth 100000 in
theorem rjump_is (a b : Int) (w : World) : Calls Try.prog 76 #[.int .i64 a, .int .i64 b] w fun e w' => e = .returned (.agg #[.int .i64 5, .int .i64 a, .int .i64 b, .int .i64 0, .string ⟨#[]⟩]) ∧ Below w.heap.size w w' := by
  go_enter Try.func76, Try.ntmps76
  go_wp2
  exact bodyPost_ret (v := .agg #[.int .i64 5, .int .i64 a, .int .i64 b, .int .i64 0, .string ⟨#[]⟩]) (by simp [results, Try.f76, go_sem]) rfl ⟨rfl, alloc_below _ _⟩

theorem own_nilP (w : World) (B : Nat) : OwnP w B (.slice none 0 0) [] := World.ownsRow_nil _ _ _ _
def cleanTo (k : Nat) : List Ins := cleanL (k + 1)
theorem cleanTo_succ (k : Nat) : cleanTo (k + 1) = cleanTo k ++ [setI ((k : Int) + 1) [48]] := by
  unfold cleanTo cleanL
  rw [Nat.add_sub_cancel, Nat.add_sub_cancel, List.range_succ, List.map_append]; rfl
theorem cleanTo_len (k : Nat) : (cleanTo k).length = k := by unfold cleanTo; rw [cleanL_len]; omega
def clearL (a n : Nat) : List Ins := (List.range n).map fun (i : Nat) => setI ((a : Int) + (i : Int)) [48]
theorem clearL_succ (a k : Nat) : clearL a (k + 1) = clearL a k ++ [setI ((a : Int) + (k : Int)) [48]] := by
  unfold clearL
  rw [List.range_succ, List.map_append]; rfl
theorem clearL_len (a n : Nat) : (clearL a n).length = n := by simp [clearL]
theorem clearL_one (m : Nat) : clearL 1 (m - 1) = cleanL m := by
  unfold clearL cleanL
  exact List.map_congr_left fun i _ => by rw [Int.add_comm]; rfl
set_option maxHeartbeats 1600000 in
set_option maxRecDepth 100000 in
theorem Clear_any (a n : Nat) (l : Int) (hn : (l + 1 - (a : Int)).toNat = n) (ha : a ≤ 40) (hl : -40 ≤ l) (hl2 : l ≤ 40) (w : World) : Calls Try.prog 94 #[.int .i64 (a : Int), .int .i64 l] w fun e w' => ∃ v, e = .returned v ∧ OwnP w' w.heap.size v (clearL a n) ∧ Below w.heap.size w w' := by
  have HNL := Lib.hid hn
  have hn41 : n ≤ 81 := by omega
  go_enter Try.func94, Try.ntmps94
  go_wp2
  go_loopw [5, 6] (fun v i wr => ∃ k : Nat, k ≤ n ∧ i = .int .i64 ((a : Int) + (k : Int)) ∧ Hid (OwnP wr w.heap.size v (clearL a k)) ∧ Below w.heap.size w wr) (fun _ i _ => (l + 1 - intOf i).toNat)
  case atStart => exact ⟨0, Nat.zero_le _, by simp, Lib.hid (own_nilP _ _), Below.refl _ _⟩
  case round =>
    obtain ⟨k, hk, rfl, HO, hb⟩ := hrel
    have hsz := hb.size
    by_cases hlt : k < n
    · have hlt' : (a : Int) + (k : Int) ≤ l := by have := HNL.out; omega
      have HL := Lib.hid (clearL_succ a k)
      have HN := clearL_len a k
      go_wp2_with fail
      refine (bset_is _ _ _).mono ?_
      rintro e w1 ⟨rfl, h1⟩
      have hb1 := hb.trans (h1.mono hsz)
      have hsz1 := hb1.size
      have HO1 := Lib.hid (HO.out.below h1)
      clear h1 hb HO
      go_wp2_with (at_builtin; refine wpList_app_prog rfl _ _ rfl w.heap.size _ (clearL a k).length (progV (clearL a k)) rfl (HO1.out.alloc _) _ rfl [setI ((a : Int) + (k : Int)) [48]] (lit_prog _ [setI ((a : Int) + (k : Int)) [48]] (by simp)) (by rw [HN]; simp; omega) (by simp; omega) ?_; intro v' w' hown hgrow)
      have hb2 : Below w.heap.size w w' := (hb1.alloc hsz1 _).grown hgrow (by simp; omega) (fun g h => ((HO1.out.alloc (.cells (progV [setI ((a : Int) + (k : Int)) [48]]).toArray 39)).lt g h).1)
      have HO2 : Hid (OwnP w' w.heap.size v' (clearL a (k + 1))) := Lib.hid (by
        unfold OwnP; rw [HL.out, progV_app, List.length_append]; exact hown)
      clear hown hgrow hb1 HO1
      go_wp2_with fail
      go_roundw
      case rel => exact ⟨k + 1, by omega, by go_num, HO2, hb2⟩
      case measure => simp [intOf]; omega
    · obtain rfl : k = n := by omega
      have hlt' : ¬ ((a : Int) + (k : Int) ≤ l) := by have := HNL.out; omega
      go_wp2_with fail
      go_ret
      exact ⟨_, rfl, HO.out, hb⟩
set_option maxHeartbeats 800000 in
set_option maxRecDepth 100000 in
theorem cleaning_any (m : Nat) (hm : m ≤ 32) (w : World) : Calls Try.prog 60 #[.int .i64 (m : Int)] w fun e w' => ∃ v, e = .returned v ∧ OwnP w' w.heap.size v (cleanL m) ∧ Below w.heap.size w w' := by
  have H := Lib.hid (fun W => Clear_any 1 (m - 1) ((m : Int) - 1) (by omega) (by omega) (by omega) (by omega) W)
  rw [clearL_one] at H
  go_enter Try.func60, Try.ntmps60
  go_wp2_with fail
  refine (H.out _).mono ?_
  rintro e w1 ⟨v, rfl, ho, hb⟩
  have HO := Lib.hid ho
  clear ho
  go_wp2
  go_ret
  exact ⟨_, rfl, HO.out, hb⟩
end Go.Proofs.Ytmhoacnbmbhcjab

namespace Go.Proofs.Ytmhoacnbmbhcjab
open Go.RowKit Pl

theorem own_lower {w : World} {base base' : Nat} {e : TypeId} {size : Nat} {v : Value} {n : Nat} {xs : List Value} (h : w.ownsRow base e size v n xs) (hb : base' ≤ base) : w.ownsRow base' e size v n xs :=
  ⟨h.1, h.2.imp id fun ⟨g, cap, cur, a, b, c⟩ => ⟨g, cap, cur, a, Nat.le_trans hb b, c⟩⟩
theorem Try.infoInt : (Try.prog.info? 3).map (fun i => (i.zero, i.size, i.bytes)) = some (some (.int .i64 0), 1, 8) := by kernel_rfl
theorem own_cellN {w : World} {B g n cap : Nat} {e : TypeId} {xs : List Value} (h : w.ownsRow B e 1 (.slice (some ⟨g, 0, none⟩) n cap) n xs) (j : Nat) (hj : j < n) : ∃ u, w.cell? ⟨g, j, none⟩ = some u := by
  have hx := h.1
  rw [h.cellAt j (by omega)]
  exact ⟨xs[j]'(by omega), List.getElem?_eq_getElem _⟩
set_option maxHeartbeats 800000 in
set_option maxRecDepth 100000 in
theorem skip_any (n over : Int) (h : -100000 ≤ over ∧ over ≤ 100000) (w : World) : Calls Try.prog 69 #[.int .i64 n, .int .i64 over] w fun e w' => ∃ v, e = .returned v ∧ OwnP w' w.heap.size v [setI n [49, 48, 48], jumpI n (1 + over)] ∧ Below w.heap.size w w' := by
  obtain ⟨ha, hb⟩ := h
  go_enter Try.func69, Try.ntmps69
  go_wp2_with fail
  refine (bset_is _ _ _).mono ?_
  rintro e w1 ⟨rfl, h1⟩
  go_wp2_with fail
  refine (bjump_is _ _ _).mono ?_
  rintro e w2 ⟨rfl, h2⟩
  have hb2 := bstep h1 h2
  go_wp2_with fail
  go_ret
  exact ⟨_, rfl, World.ownsRow_lit w2 (progV [setI n [49, 48, 48], jumpI n (1 + over)]).toArray 2 hb2.size (by unfold maxLen; omega) rfl, hb2.alloc hb2.size _⟩
set_option maxHeartbeats 800000 in
set_option maxRecDepth 100000 in
theorem again_any (n : Int) (m : Nat) (hm : m ≤ 32) (w : World) : Calls Try.prog 66 #[.int .i64 n, .int .i64 (m : Int)] w fun e w' => ∃ v, e = .returned v ∧ OwnP w' w.heap.size v (moveI 0 n :: cleanL m) ∧ Below w.heap.size w w' := by
  have HL := Lib.hid (cleanL_len m)
  go_enter Try.func66, Try.ntmps66
  go_wp2_with fail
  refine (bmove_is _ _ _).mono ?_
  rintro e w1 ⟨rfl, h1⟩
  have hb1 := h1.alloc h1.size (.cells (progV [moveI 0 n]).toArray 39)
  have A1 := Lib.hid (lit_prog w1 [moveI 0 n] (by simp))
  have hs1 := h1.size
  go_wp2_with fail
  refine (cleaning_any m hm _).mono ?_
  rintro e w2 ⟨v2, rfl, ho2, h2⟩
  obtain ⟨a2, c2, rfl⟩ := ho2.arg.form
  have HO2 := Lib.hid ho2
  have hb2 := bstep hb1 h2
  have A2 := Lib.hid (A1.out.below h2)
  clear ho2
  have HP := Lib.hid (lit_pieces w2 [.slice (some ⟨w1.heap.size, 0, none⟩) 1 1, .slice a2 (cleanL m).length c2] [[moveI 0 n], cleanL m] ⟨A2.out, HO2.out.arg, trivial⟩)
  clear h1 h2 hb1
  go_wp2_with fail
  refine (Concat_any _ w2.heap.size 0 2 [[moveI 0 n], cleanL m] HP.out (by simp) (by have := HL.out; simp; omega)).mono ?_
  rintro e w3 ⟨v3, rfl, ho3, h3⟩
  have hb3 : Below w.heap.size w w3 := bstep (hb2.alloc hb2.size _) h3
  have HO3 : Hid (OwnP w3 w.heap.size v3 (moveI 0 n :: cleanL m)) := Lib.hid (by
    have h4 := own_lower (base' := w.heap.size) ho3 (by have := hb2.size; simp; omega)
    unfold OwnP; simpa using h4)
  clear ho3
  go_wp2_with fail
  go_ret
  exact ⟨_, rfl, HO3.out, hb3⟩
/-- what registers returns -/
def RegsPost (w : World) (pss : List (List Ins)) (e : Ending) (w' : World) : Prop :=
  Below w.heap.size w w' ∧
  ((e = .returned (.tuple #[.slice none 0 0, .int .i64 1]) ∧ ∃ p ∈ pss, ¬ PValid p) ∨
   ((∀ p ∈ pss, PValid p) ∧
    ((e = .returned (.tuple #[.slice none 0 0, .int .i64 8]) ∧ ∃ p ∈ pss, 28 < rn p) ∨
     ((∀ p ∈ pss, rn p ≤ 28) ∧ ∃ g, e = .returned (.tuple #[.slice (some ⟨g, 0, none⟩) pss.length pss.length, .int .i64 0]) ∧ NumsAt w' g 0 (pss.map rn)))))
def numV (l : List Nat) : List Value := l.map fun (x : Nat) => .int .i64 (x : Int)
set_option maxHeartbeats 3200000 in
set_option maxRecDepth 100000 in
theorem bregs_any (w : World) (b off cap : Nat) (pss : List (List Ins)) (hc : PiecesAt w b off pss) (hm : pss.length ≤ 6000000000000) (hs : ∀ p ∈ pss, p.length ≤ 281474976710656 ∧ ∀ x ∈ p, x.tree.length ≤ 281474976710656) :
    Calls Try.prog 59 #[.slice (some ⟨b, off, none⟩) pss.length cap] w (RegsPost w pss) := by
  obtain ⟨i0, hi, hz0, hz1, hz2⟩ := info_parts Try.infoInt
  generalize hnn : pss.length = n at *
  have HN := Lib.hid hnn; have HC := Lib.hid hc; have HS := Lib.hid hs
  have hbw := hc.lt
  clear hnn hc hs
  go_enter Try.func59, Try.ntmps59
  go_wp2_with (at_make; refine wpList_make_full _ rfl _ _ 89 rfl w.heap.size 3 i0 (.int .i64 0) 1 Try.underlying89 hi hz0 hz1 .i64 .i64 _ _ n rfl rfl rfl rfl (by rw [hz2]; omega) (by unfold maxLen; omega) (Nat.le_refl _) ?_)
  intro w1 hown hgrow
  have hb1 : Below w.heap.size w w1 := (Below.refl _ _).grown hgrow (Nat.le_refl _) (by simp)
  obtain ⟨xs, HO⟩ : ∃ xs, Hid (w1.ownsRow w.heap.size 3 1 (.slice (some ⟨w.heap.size, 0, none⟩) n n) n xs) := ⟨_, Lib.hid hown⟩
  clear hown hgrow hi hz0 hz1 hz2
  go_wp2
  go_loopw [16] (fun i wr => ∃ (k : Nat) (ys : List Value), k ≤ n ∧ i = .int .i64 k ∧ Hid (∀ j p, j < k → pss[j]? = some p → PValid p) ∧ Hid (wr.ownsRow w.heap.size 3 1 (.slice (some ⟨w.heap.size, 0, none⟩) n n) n ys) ∧ Hid (ys.take k = numV ((pss.take k).map rn)) ∧ Below w.heap.size w wr) (fun i _ => n - (intOf i).toNat)
  case atStart => exact ⟨0, xs, Nat.zero_le _, rfl, Lib.hid (fun j p h => by omega), HO, Lib.hid (by simp [numV]), hb1⟩
  case round =>
    clear HO hb1
    obtain ⟨k, ys, hk, rfl, HV, HO, HY, hb⟩ := hrel
    have hsz := hb.size
    by_cases hlt : k < n
    · have hk1 : (k : Int) < (n : Int) := by omega
      obtain ⟨p, hp⟩ := piece_at (pss := pss) (k := k) (by rw [HN.out]; exact hlt)
      obtain ⟨u, hcell, hA⟩ := (HC.out.below hb).piece k p hp
      obtain ⟨hpl, hpz⟩ := HS.out p (List.mem_of_getElem? hp)
      obtain ⟨pa, pcap, rfl⟩ := hA.form
      have HP := Lib.hid hp
      by_cases hv : PValid p
      · have HR := Lib.hid (fun W h => PRegs_arg W (.slice pa p.length pcap) p h hv)
        rw [← rn_eq] at HR
        have HA := Lib.hid hA
        have HVV := Lib.hid hv
        clear hp hA hv
        generalize p.length = q at *
        go_wp2_with fail
        refine (HR.out _ HA.out).mono ?_
        rintro e w2 ⟨rfl, h2⟩
        have hb2 := hb.trans (h2.mono hsz)
        have own2 := own_below HO.out h2
        obtain ⟨u0, c0⟩ := own_cellN own2 k hlt
        have f0 := own2.frozenAt k
        have HO2 := Lib.hid (own2.stored k (.int .i64 (rn p : Int))).1
        have HB2 := Lib.hid (hb2.setCell (p := ⟨w.heap.size, k, none⟩) (Nat.le_refl _) (.int .i64 (rn p : Int)))
        have HY2 : Hid ((ys.set k (.int .i64 (rn p : Int))).take (k + 1) = numV ((pss.take (k + 1)).map rn)) := Lib.hid (by
          have h9 : k < ys.length := by have := own2.1; omega
          rw [List.take_add_one, List.take_add_one, HP.out, List.map_append, List.take_set_of_le (Nat.le_refl _), HY.out]
          simp [numV, h9])
        have HV2 : Hid (∀ j p, j < k + 1 → pss[j]? = some p → PValid p) := Lib.hid (fun j p' hj hp' => by
          by_cases h : j = k
          · subst h
            have h3 := HP.out
            rw [hp'] at h3
            cases h3; exact HVV.out
          · exact HV.out j p' (by omega) hp')
        clear own2 hb hb2 h2
        go_wp2_with fail
        go_roundw
        case rel => exact ⟨k + 1, _, by omega, by go_num, HV2, HO2, HY2, HB2.out⟩
        case measure => simp [intOf]; omega
      · have HR := Lib.hid (fun W h => PRegs_bad W (.slice pa p.length pcap) p h hpl hpz hv)
        have HA := Lib.hid hA
        have HVV := Lib.hid hv
        clear hp hA hv
        generalize p.length = q at *
        go_wp2_with fail
        refine (HR.out _ HA.out).mono ?_
        rintro e w2 ⟨rfl, h2⟩
        have hb2 := hb.trans (h2.mono hsz)
        clear h2
        go_wp2_with fail
        go_ret2
        exact ⟨hb2, .inl ⟨rfl, p, List.mem_of_getElem? HP.out, HVV.out⟩⟩
    · obtain rfl : k = n := by omega
      have HALL : Hid (∀ p ∈ pss, PValid p) := Lib.hid (fun p hp => by
        obtain ⟨j, hj⟩ := List.mem_iff_getElem?.1 hp
        exact HV.out j p (by have := (List.getElem?_eq_some_iff.1 hj).1; have := HN.out; omega) hj)
      have HNA : Hid (NumsAt wr w.heap.size 0 (pss.map rn)) := Lib.hid (by
        have hl := HO.out.1
        refine ⟨by have h := (HO.out.lt w.heap.size rfl).2; exact h, fun j x hx => ?_⟩
        have hj := (List.getElem?_eq_some_iff.1 hx).1
        rw [List.length_map, HN.out] at hj
        rw [Nat.zero_add, HO.out.cellAt j (by omega)]
        have h5 := HY.out
        rw [List.take_of_length_le (by omega), List.take_of_length_le (by have := HN.out; omega)] at h5
        rw [h5]; unfold numV; rw [List.getElem?_map, hx]; rfl)
      clear HV HO HY
      go_wp2
      go_loopw [36] (fun i w2 => ∃ j : Nat, j ≤ k ∧ i = .int .i64 j ∧ Hid (∀ l p, l < j → pss[l]? = some p → rn p ≤ 28) ∧ ∃ q, w2 = wr.drewN q) (fun i _ => k - (intOf i).toNat)
      case atStart => exact ⟨0, Nat.zero_le _, rfl, Lib.hid (fun l p h => by omega), 0, rfl⟩
      case round =>
        obtain ⟨j, hj, rfl, HF, q, rfl⟩ := hrel
        by_cases hlt2 : j < k
        · obtain ⟨p, hp⟩ := piece_at (pss := pss) (k := j) (by rw [HN.out]; exact hlt2)
          have c0 : wr.cell? ⟨w.heap.size, j, none⟩ = some (.int .i64 (rn p : Int)) := by
            have h5 := HNA.out.2 j (rn p) (by rw [List.getElem?_map, hp]; rfl)
            rwa [Nat.zero_add] at h5
          have hj1 : (j : Int) < (k : Int) := by omega
          have HP := Lib.hid hp
          clear hp
          by_cases h28 : rn p ≤ 28
          · have h28' : ¬ (28 : Int) < (rn p : Int) := by omega
            have HF2 : Hid (∀ l p, l < j + 1 → pss[l]? = some p → rn p ≤ 28) := Lib.hid (fun l p' hl hp' => by
              by_cases h : l = j
              · subst h
                have h3 := HP.out
                rw [hp'] at h3
                cases h3; exact h28
              · exact HF.out l p' (by omega) hp')
            go_wp2
            go_roundw
            case rel => exact ⟨j + 1, by omega, by go_num, HF2, _, rfl⟩
            case measure => simp [intOf]; omega
          · have h28' : (28 : Int) < (rn p : Int) := by omega
            go_wp2
            go_ret2
            exact ⟨bdrewN hb _, .inr ⟨HALL.out, .inl ⟨rfl, p, List.mem_of_getElem? HP.out, by omega⟩⟩⟩
        · obtain rfl : j = k := by omega
          have HFF : Hid (∀ p ∈ pss, rn p ≤ 28) := Lib.hid (fun p hp => by
            obtain ⟨l, hl⟩ := List.mem_iff_getElem?.1 hp
            exact HF.out l p (by have := (List.getElem?_eq_some_iff.1 hl).1; have := HN.out; omega) hl)
          go_wp2
          go_ret2
          exact ⟨bdrewN hb _, .inr ⟨HALL.out, .inr ⟨HFF.out, w.heap.size, by rw [HN.out]; rfl, HNA.out⟩⟩⟩
end Go.Proofs.Ytmhoacnbmbhcjab

namespace Go.Proofs.Ytmhoacnbmbhcjab
open Go.RowKit Pl

theorem set_same_list {xs : List Value} {j : Nat} {u : Value} (h : xs[j]? = some u) : xs.set j u = xs := by
  obtain ⟨h1, rfl⟩ := List.getElem?_eq_some_iff.1 h
  exact List.set_getElem_self _
theorem OwnP.stored {w : World} {B g cap : Nat} {ps : List Ins} (h : OwnP w B (.slice (some ⟨g, 0, none⟩) ps.length cap) ps) {j : Nat} {u : Value} (hj : (progV ps)[j]? = some u) : OwnP (w.setCell ⟨g, j, none⟩ u) B (.slice (some ⟨g, 0, none⟩) ps.length cap) ps := by
  have h1 := (World.ownsRow.stored h j u).1
  rw [set_same_list hj] at h1
  exact h1
/-- what join returns -/
def JoinPost (w : World) (cs : List Ins) (e : Ending) (w' : World) : Prop :=
  Below w.heap.size w w' ∧ ((PValid cs ∧ ∃ v, e = .returned (.tuple #[v, .int .i64 0]) ∧ ArgP w' v cs) ∨ (¬ PValid cs ∧ e = .returned (.tuple #[.slice none 0 0, .int .i64 3])))
/-- the same, and the program is its own -/
def JoinOwn (w : World) (cs : List Ins) (e : Ending) (w' : World) : Prop :=
  Below w.heap.size w w' ∧ ((PValid cs ∧ ∃ v, e = .returned (.tuple #[v, .int .i64 0]) ∧ OwnP w' w.heap.size v cs) ∨ (¬ PValid cs ∧ e = .returned (.tuple #[.slice none 0 0, .int .i64 3])))
set_option maxHeartbeats 3200000 in
set_option maxRecDepth 100000 in
theorem join_own (w : World) (b off cap : Nat) (pss : List (List Ins)) (cs : List Ins) (hcs : pss.flatten = cs) (hc : PiecesAt w b off pss) (hm : pss.length ≤ 281474976710656) (hz : cs.length * 48 ≤ 140737488355328) (ht : ∀ x ∈ cs, x.tree.length ≤ 281474976710656) :
    Calls Try.prog 61 #[.slice (some ⟨b, off, none⟩) pss.length cap] w (JoinOwn w cs) := by
  have HC := Lib.hid (Concat_any w b off cap pss hc hm (by rw [hcs]; exact hz))
  rw [hcs] at HC
  obtain ⟨r, hr⟩ := pv_bool cs
  have HV := Lib.hid (fun W v h => CV_arg W v cs r h (by omega) ht hr)
  have HR := Lib.hid hr
  have HT := Lib.hid ht
  clear hc hcs hr ht hm
  go_enter Try.func61, Try.ntmps61
  go_wp2_with fail
  refine HC.out.mono ?_
  rintro e w1 ⟨v1, rfl, ho1, h1⟩
  obtain ⟨a1, c1, rfl⟩ : ∃ a c, v1 = .slice a cs.length c := (OwnP.arg (ps := cs) ho1).form
  have HO1 : Hid (OwnP w1 w.heap.size (.slice a1 cs.length c1) cs) := Lib.hid ho1
  have HA1 := Lib.hid (OwnP.arg (ps := cs) ho1)
  clear ho1 HC
  go_wp2_with fail
  refine (HV.out _ _ HA1.out).mono ?_
  rintro e w2 ⟨rfl, h2⟩
  have hb2 := bstep h1 h2
  have HO2 := Lib.hid (HO1.out.below h2)
  clear h1 h2 HO1 HA1 HV
  cases r with
  | false =>
    have HN : Hid (¬ PValid cs) := Lib.hid (fun h => by have := HR.out.2 h; cases this)
    go_wp2_with fail
    go_ret2
    exact ⟨hb2, .inr ⟨HN.out, rfl⟩⟩
  | true =>
    have HP : Hid (PValid cs) := Lib.hid (HR.out.1 rfl)
    clear HR
    rcases Nat.eq_zero_or_pos cs.length with h0 | h0
    · have HL := Lib.hid h0
      rw [h0] at HO2 ⊢
      clear h0 hz
      go_wp2
      go_loopw [13] (fun i wr => i = .int .i64 0 ∧ wr = w2) (fun _ _ => 0)
      case atStart => exact ⟨rfl, rfl⟩
      case round =>
        obtain ⟨rfl, rfl⟩ := hrel
        go_wp2
        go_ret2
        refine ⟨hb2, .inl ⟨HP.out, _, rfl, ?_⟩⟩
        exact HO2.out
    · obtain ⟨g, cap2, he, hg, _⟩ := (own_prog HO2.out).2.2 h0
      obtain ⟨rfl, rfl⟩ : a1 = some ⟨g, 0, none⟩ ∧ c1 = cap2 := by simpa using he
      clear he
      have HZ := Lib.hid hz
      generalize hn : cs.length = n at *
      have HL := Lib.hid hn
      have hn4 : n ≤ 281474976710656 := by omega
      clear h0 hz hn
      go_wp2
      go_loopw [13] (fun i wr => ∃ k : Nat, k ≤ n ∧ i = .int .i64 k ∧ Hid (OwnP wr w.heap.size (.slice (some ⟨g, 0, none⟩) n c1) cs) ∧ Below w.heap.size w wr) (fun i _ => n - (intOf i).toNat)
      case atStart => exact ⟨0, Nat.zero_le _, rfl, HO2, hb2⟩
      case round =>
        clear HO2 hb2
        obtain ⟨k, hk, rfl, HO, hb⟩ := hrel
        have hsz := hb.size
        by_cases hlt : k < n
        · have hk1 : (k : Int) < (n : Int) := by omega
          obtain ⟨x, hx⟩ := get_at (ps := cs) (k := k) (by rw [HL.out]; exact hlt)
          have hxt := HT.out x (List.mem_of_getElem? hx)
          have hpv : (progV cs)[k * 5 + 4]? = some (.string (S x.tree)) := by rw [progV_at hx (by omega)]; rfl
          have HPV := Lib.hid hpv
          have hlt5 : k * 5 + 4 < n * 5 := by omega
          have hcellW : ∀ W, OwnP W w.heap.size (.slice (some ⟨g, 0, none⟩) n c1) cs → W.cell? ⟨g, k * 5 + 4, none⟩ = some (.string (S x.tree)) ∧ W.frozen? ⟨g, k * 5 + 4, none⟩ = false := by
            intro W hW
            unfold OwnP at hW
            rw [HL.out] at hW
            exact ⟨by rw [hW.cellAt (k * 5 + 4) hlt5]; exact HPV.out, hW.frozenAt (k * 5 + 4)⟩
          have HCW := Lib.hid hcellW
          have c4 := (HCW.out _ HO.out).1
          have HQ := Lib.hid (fun W => Clone_any (S x.tree) W (by rw [S_size]; exact hxt))
          clear hx hpv hcellW
          go_wp2_with fail
          refine (HQ.out _).mono ?_
          rintro e w3 ⟨rfl, h3⟩
          have hb3 := hb.trans (h3.mono hsz)
          have HO3 := Lib.hid (HO.out.below h3)
          obtain ⟨d4, f4⟩ := HCW.out _ HO3.out
          have HO4 : Hid (OwnP (w3.setCell ⟨g, k * 5 + 4, none⟩ (.string (S x.tree))) w.heap.size (.slice (some ⟨g, 0, none⟩) n c1) cs) := Lib.hid (by
            have h5 := HO3.out
            rw [← HL.out] at h5 ⊢
            exact h5.stored HPV.out)
          have HB4 := Lib.hid (hb3.setCell (p := ⟨g, k * 5 + 4, none⟩) hg (.string (S x.tree)))
          clear c4 h3 hb hb3
          go_wp2_with fail
          go_roundw
          case rel => exact ⟨k + 1, by omega, by go_num, HO4, HB4.out⟩
          case measure => simp [intOf]; omega
        · obtain rfl : k = n := by omega
          go_wp2_with fail
          go_ret2
          exact ⟨hb, .inl ⟨HP.out, _, rfl, HO.out⟩⟩
theorem join_any (w : World) (b off cap : Nat) (pss : List (List Ins)) (cs : List Ins) (hcs : pss.flatten = cs) (hc : PiecesAt w b off pss) (hm : pss.length ≤ 281474976710656) (hz : cs.length * 48 ≤ 140737488355328) (ht : ∀ x ∈ cs, x.tree.length ≤ 281474976710656) :
    Calls Try.prog 61 #[.slice (some ⟨b, off, none⟩) pss.length cap] w (JoinPost w cs) := by
  refine (join_own w b off cap pss cs hcs hc hm hz ht).mono ?_
  rintro e w' ⟨h1, ⟨h2, v, h3, h4⟩ | h2⟩
  · exact ⟨h1, .inl ⟨h2, v, h3, h4.arg⟩⟩
  · exact ⟨h1, .inr h2⟩
end Go.Proofs.Ytmhoacnbmbhcjab

namespace Go.Proofs.Ytmhoacnbmbhcjab
open Go.RowKit Pl

open Classical in
/-- the error that is due for programs and the one that is made of them -/
noncomputable def dueP (l : List (List Ins)) (cs : List Ins) : Int :=
  if ∃ p ∈ l, ¬ PValid p then 1 else if ∃ p ∈ l, 28 < rn p then 8 else if FitsP cs then 0 else 3
/-- what a function of the package returns -/
def BPost (w : World) (due : Int) (cs : List Ins) (e : Ending) (w' : World) : Prop :=
  Below w.heap.size w w' ∧ ((due = 0 ∧ ∃ v, e = .returned (.tuple #[v, .int .i64 0]) ∧ ArgP w' v cs) ∨ (due ≠ 0 ∧ e = .returned (.tuple #[.slice none 0 0, .int .i64 due])))
theorem due_form {l : List (List Ins)} {cs : List Ins} (h : ∃ p ∈ l, ¬ PValid p) : dueP l cs = 1 := if_pos h
theorem due_regs {l : List (List Ins)} {cs : List Ins} (h : ∀ p ∈ l, PValid p) (h2 : ∃ p ∈ l, 28 < rn p) : dueP l cs = 8 := by
  unfold dueP; rw [if_neg (by rintro ⟨p, h1, h2⟩; exact h2 (h p h1)), if_pos h2]
theorem fits_is {cs : List Ins} (h : AllR cs) {w w' : World} {e : Ending} {l : List (List Ins)} (hv : ∀ p ∈ l, PValid p) (h2 : ∀ p ∈ l, rn p ≤ 28) (hj : JoinPost w cs e w') : BPost w (dueP l cs) cs e w' := by
  refine ⟨hj.1, ?_⟩
  unfold dueP
  rw [if_neg (by rintro ⟨p, h1, h2⟩; exact h2 (hv p h1)), if_neg (by rintro ⟨p, h1, h3⟩; have := h2 p h1; omega)]
  rcases hj.2 with ⟨h3, h4⟩ | ⟨h3, h4⟩
  · rw [if_pos ((fits_valid h).1 h3)]; exact .inl ⟨rfl, h4⟩
  · rw [if_neg (fun h5 => h3 ((fits_valid h).2 h5))]; exact .inr ⟨by omega, h4⟩
theorem lit_piecesB {w : World} {b : Nat} (hb : b = w.heap.size) (vs : List Value) (pss : List (List Ins)) (h : ArgsP w vs pss) : PiecesAt (w.alloc (.cells vs.toArray 23)) b 0 pss := by
  subst hb; exact lit_pieces w vs pss h
theorem const_valid {l : List UInt8} (h : vld l = true) : PValid [setI 0 l] := (fits_valid (allR_const h)).2 ⟨by simp, by
  have h1 := (vld_iff.1 h).1
  have : trees [setI 0 l] = l.length := by simp [trees, setI]
  omega⟩
set_option maxHeartbeats 800000 in
set_option maxRecDepth 100000 in
theorem Const_list (l : List UInt8) (w : World) (hs : l.length ≤ 281474976710656) : Calls Try.prog 20 #[.string (S l)] w (BPost w (if vld l = true then 0 else 1) [setI 0 l]) := by
  have hs2 : (S l).size ≤ 281474976710656 := by rw [S_size]; exact hs
  cases hv : vld l with
  | false =>
    have H := Lib.hid (fun W => Valid_is false (S l) W hs2 (by rw [S_list]; exact hv))
    clear hs hv hs2
    go_enter Try.func20, Try.ntmps20
    go_wp2_with fail
    refine (H.out _).mono ?_
    rintro e w1 ⟨rfl, h1⟩
    go_wp2_with fail
    go_ret2
    exact ⟨h1, .inr ⟨by simp, rfl⟩⟩
  | true =>
    have H := Lib.hid (fun W => Valid_is true (S l) W hs2 (by rw [S_list]; exact hv))
    have HJ := Lib.hid (fun W b cap h => join_any W b 0 cap [[setI 0 l]] [setI 0 l] rfl h (by simp) (by simp) (by intro x hx; simp at hx; subst hx; exact hs))
    have HP := Lib.hid (const_valid hv)
    clear hs hv hs2
    go_enter Try.func20, Try.ntmps20
    go_wp2_with fail
    refine (H.out _).mono ?_
    rintro e w1 ⟨rfl, h1⟩
    go_wp2_with fail
    refine (bset_is _ _ _).mono ?_
    rintro e w2 ⟨rfl, h2⟩
    have hb2 := bstep h1 h2
    have A1 : Hid (ArgP (w2.alloc (.cells #[.int .i64 0, .int .i64 0, .int .i64 0, .int .i64 0, .string (S l)] 39)) (.slice (some ⟨w2.heap.size, 0, none⟩) 1 1) [setI 0 l]) := Lib.hid (lit_prog w2 [setI 0 l] (by simp))
    have HL := Lib.hid (lit_piecesB (b := w2.heap.size + 1) (by simp) [.slice (some ⟨w2.heap.size, 0, none⟩) 1 1] [[setI 0 l]] ⟨A1.out, trivial⟩)
    have hb3 := Lib.hid ((hb2.alloc hb2.size (.cells (progV [setI 0 l]).toArray 39)).alloc (by have := hb2.size; simp; omega) (.cells #[.slice (some ⟨w2.heap.size, 0, none⟩) 1 1] 23))
    clear h1 h2
    go_wp2_with fail
    refine (HJ.out _ _ 1 HL.out).mono ?_
    rintro e w4 ⟨h4, hJ⟩
    rcases hJ with ⟨_, v, rfl, hA⟩ | ⟨hn, _⟩
    · have HA := Lib.hid hA
      have hb4 := Lib.hid (bstep hb3.out h4)
      clear hA h4 hb2
      go_wp2_with fail
      go_ret2
      exact ⟨hb4.out, .inl ⟨by simp, v, rfl, HA.out⟩⟩
    · exact absurd HP.out hn
theorem Const_any (s : ByteArray) (w : World) (hs : s.size ≤ 281474976710656) : Calls Try.prog 20 #[.string s] w (BPost w (if vld s.data.toList = true then 0 else 1) [setI 0 s.data.toList]) := by
  have h := Const_list s.data.toList w (by rw [len_eq]; exact hs)
  rwa [show S s.data.toList = s by simp [S]] at h

def thenTo (l : List (List Ins)) (k : Nat) : List Ins := thenL (l.take k)
theorem thenL_snoc {l : List (List Ins)} (h : l ≠ []) (p : List Ins) : thenL (l ++ [p]) = thenL l ++ behind p := by
  cases l with
  | nil => exact absurd rfl h
  | cons q l => simp [thenL]
theorem thenTo_one {l : List (List Ins)} {p : List Ins} (h : l[0]? = some p) : thenTo l 1 = p := by
  cases l with
  | nil => simp at h
  | cons q l => simp at h; subst h; simp [thenTo, thenL]
theorem thenTo_succ {l : List (List Ins)} {k : Nat} {p : List Ins} (h : l[k]? = some p) (h0 : 0 < k) : thenTo l (k + 1) = thenTo l k ++ behind p := by
  obtain ⟨hk, rfl⟩ := List.getElem?_eq_some_iff.1 h
  unfold thenTo
  rw [List.take_succ_eq_append_getElem hk]
  exact thenL_snoc (by cases l with | nil => simp at hk | cons q l => cases k with | zero => omega | succ k => simp) _
theorem thenTo_all {l : List (List Ins)} {k : Nat} (h : l.length ≤ k) : thenTo l k = thenL l := by unfold thenTo; rw [List.take_of_length_le h]
theorem thenL_app (a b : List (List Ins)) : (thenL a).length ≤ (thenL (a ++ b)).length := by
  cases a with
  | nil => simp [thenL]
  | cons p a => simp [thenL, List.flatMap_append]
theorem thenTo_le (l : List (List Ins)) (k : Nat) : (thenTo l k).length ≤ (thenL l).length := by
  have h := thenL_app (l.take k) (l.drop k)
  rw [List.take_append_drop] at h; exact h
theorem thenTo_mem {l : List (List Ins)} {k : Nat} {x : Ins} (hv : ∀ p ∈ l, PValid p) (h : x ∈ thenTo l k) : x.tree.length ≤ 2000000 := by
  unfold thenTo at h
  have hr : AllR (thenL (l.take k)) := allR_then (fun p hp => hv p (List.mem_of_mem_take hp))
  obtain ⟨j, hj⟩ := List.mem_iff_getElem?.1 h
  exact right_tree_le (hr j x hj)
set_option maxHeartbeats 3200000 in
set_option maxRecDepth 100000 in
theorem Then_some (w : World) (b off cap : Nat) (pss : List (List Ins)) (hc : PiecesAt w b off pss) (hm : pss.length ≤ 6000000000000) (hs : ∀ p ∈ pss, p.length ≤ 281474976710656 ∧ ∀ x ∈ p, x.tree.length ≤ 281474976710656) :
    Calls Try.prog 17 #[.slice (some ⟨b, off, none⟩) pss.length cap] w (BPost w (dueP pss (thenL pss)) (thenL pss)) := by
  have HR := Lib.hid (bregs_any w b off cap pss hc hm hs)
  generalize hnn : pss.length = n at *
  have HN := Lib.hid hnn; have HC := Lib.hid hc
  clear hnn hc hs
  go_enter Try.func17, Try.ntmps17
  go_wp2_with fail
  refine HR.out.mono ?_
  rintro e w1 ⟨h1, hR⟩
  clear HR
  rcases hR with ⟨rfl, hx⟩ | ⟨hv, ⟨rfl, hx⟩ | ⟨h28, g, rfl, hN⟩⟩
  · have HX := Lib.hid (due_form (cs := thenL pss) hx)
    clear hx
    go_wp2_with fail
    go_ret2
    rw [HX.out]
    exact ⟨h1, .inr ⟨by omega, rfl⟩⟩
  · have HX := Lib.hid (due_regs (cs := thenL pss) hv hx)
    clear hx hv
    go_wp2_with fail
    go_ret2
    rw [HX.out]
    exact ⟨h1, .inr ⟨by omega, rfl⟩⟩
  · have HV := Lib.hid hv; have H28 := Lib.hid h28; have HNA := Lib.hid hN
    have hgl := hN.1
    rw [HN.out]
    clear hv h28 hN
    go_wp2_with fail
    go_loopw [6, 19] (fun v i wr => ∃ k : Nat, k ≤ n ∧ i = .int .i64 k ∧ Hid (OwnP wr w1.heap.size v (thenTo pss k)) ∧ Hid ((thenTo pss k).length ≤ 4000) ∧ Below w1.heap.size w1 wr) (fun _ i _ => n - (intOf i).toNat)
    case atStart => exact ⟨0, Nat.zero_le _, rfl, Lib.hid (by have := own_nilP w1 w1.heap.size; simpa [thenTo, thenL] using this), Lib.hid (by simp [thenTo, thenL]), Below.refl _ _⟩
    case round =>
      obtain ⟨k, hk, rfl, HO, HK4, hb1⟩ := hrel
      have hb := bstep h1 hb1
      have hsz := hb1.size
      by_cases hlt : k < n
      · have hk1 : (k : Int) < (n : Int) := by omega
        obtain ⟨p, hp⟩ := piece_at (pss := pss) (k := k) (by rw [HN.out]; exact hlt)
        obtain ⟨u, hcell0, hA0⟩ := HC.out.piece k p hp
        have hcell := (hb.cell (p := ⟨b, off + k, none⟩) HC.out.lt).trans hcell0
        have hpv := HV.out p (List.mem_of_getElem? hp)
        have hp4 := hpv.1
        have hp28 := H28.out p (List.mem_of_getElem? hp)
        have HA := Lib.hid (fun W (h : Below w.heap.size w W) => hA0.below h)
        have HP := Lib.hid hp
        obtain ⟨pa, pcap, rfl⟩ := hA0.form
        clear hcell0
        rcases Nat.eq_zero_or_pos k with h0 | h0
        · have HE : Hid (thenTo pss (k + 1) = p) := Lib.hid (by rw [h0] at hp ⊢; exact thenTo_one hp)
          have HE0 : thenTo pss k = [] := by rw [h0]; simp [thenTo, thenL]
          rw [HE0] at HO
          have hk0 : ¬ (0 : Int) < (k : Int) := by omega
          clear hp hA0 hpv HE0 h0 HK4
          go_wp2_with (at_builtin; refine wpList_app_prog rfl _ _ rfl w1.heap.size _ 0 [] rfl HO.out _ rfl p (HA.out _ hb) (by omega) hsz ?_; intro v' w' hown hgrow)
          have hb12 : Below w1.heap.size w1 w' := hb1.grown hgrow hsz (fun g h => (HO.out.lt g h).1)
          have HO2 : Hid (OwnP w' w1.heap.size v' (thenTo pss (k + 1))) := Lib.hid (by rw [HE.out]; unfold OwnP; simpa using hown)
          obtain ⟨qa, qcap, rfl⟩ := (HE.out ▸ HO2.out.arg).form
          have hp4' : ¬ (4000 : Int) < (p.length : Int) := by omega
          have HEL : Hid ((thenTo pss (k + 1)).length ≤ 4000) := Lib.hid (by rw [HE.out]; exact hp4)
          clear hown hgrow hb hb1 HO
          go_wp2_with fail
          go_roundw
          case rel => exact ⟨k + 1, by omega, by go_num, HO2, HEL, hb12⟩
          case measure => simp [intOf]; omega
        · have HE := Lib.hid (thenTo_succ hp h0)
          have HLE := Lib.hid (thenTo_le pss (k + 1))
          have hk0 : (0 : Int) < (k : Int) := by omega
          have c0 : wr.cell? ⟨g, k, none⟩ = some (.int .i64 (rn p : Int)) := by
            have h5 := (HNA.out.below hb1).2 k (rn p) (by rw [List.getElem?_map, hp]; rfl)
            rwa [Nat.zero_add] at h5
          have HQ := Lib.hid (cleaning_any (rn p) (by omega))
          have HCL := Lib.hid (cleanL_len (rn p))
          clear hp hA0 hpv h0
          go_wp2_with fail
          refine (HQ.out _).mono ?_
          rintro e w2 ⟨v2, rfl, ho2, h2⟩
          obtain ⟨a2, c2, rfl⟩ := ho2.arg.form
          have HA2 := Lib.hid ho2.arg
          have HO2 := Lib.hid (HO.out.below h2)
          have hb2 := bstep hb1 h2
          have hs2 := hb2.size
          clear ho2 h2 hb1 hb hsz HO c0 hcell
          go_wp2_with (first
            | (at_builtin; refine wpList_app_prog rfl _ _ rfl w1.heap.size _ (thenTo pss k).length (progV (thenTo pss k)) rfl HO2.out _ rfl (cleanL (rn p)) HA2.out (by have := HK4.out; have := HCL.out; omega) hs2 ?_; intro v3 w3 hown3 hgrow3)
            | (at_builtin; refine wpList_app_prog rfl _ _ rfl w1.heap.size _ _ _ rfl hown3 _ rfl p (HA.out _ (bstep h1 (hb2.grown hgrow3 hs2 (fun g h => (HO2.out.lt g h).1)))) (by have := HK4.out; have := HCL.out; omega) (hb2.grown hgrow3 hs2 (fun g h => (HO2.out.lt g h).1)).size ?_; intro v4 w4 hown4 hgrow4))
          have hb3 : Below w1.heap.size w1 w3 := hb2.grown hgrow3 hs2 (fun g h => (HO2.out.lt g h).1)
          have hb4 : Below w1.heap.size w1 w4 := hb3.grown hgrow4 hb3.size (fun g h => (hown3.lt g h).1)
          have HO4 : Hid (OwnP w4 w1.heap.size v4 (thenTo pss (k + 1))) := Lib.hid (by
            unfold OwnP; rw [HE.out]; unfold behind
            rw [progV_app, progV_app, List.length_append, List.length_append, ← Nat.add_assoc, ← List.append_assoc]; exact hown4)
          obtain ⟨qa, qcap, rfl⟩ := HO4.out.arg.form
          clear hown3 hgrow3 hown4 hgrow4 hb3 hb2
          by_cases h4 : (thenTo pss (k + 1)).length ≤ 4000
          · have h4' : ¬ (4000 : Int) < ((thenTo pss (k + 1)).length : Int) := by omega
            have HK := Lib.hid h4
            clear h4
            go_wp2_with fail
            go_roundw
            case rel => exact ⟨k + 1, by omega, by go_num, HO4, HK, hb4⟩
            case measure => simp [intOf]; omega
          · have h4' : (4000 : Int) < ((thenTo pss (k + 1)).length : Int) := by omega
            have hup : (thenTo pss (k + 1)).length ≤ 281474976710656 := by
              rw [HE.out]; unfold behind
              have := HK4.out; have := HCL.out
              simp only [List.length_append]; omega
            have HX : Hid (dueP pss (thenL pss) = 3) := Lib.hid (by
              unfold dueP
              rw [if_neg (by rintro ⟨p, h1, h2⟩; exact h2 (HV.out p h1)), if_neg (by rintro ⟨p, h1, h3⟩; have := H28.out p h1; omega), if_neg (fun h => by have := h.1; have := HLE.out; omega)])
            clear h4
            generalize (thenTo pss (k + 1)).length = q4 at *
            have hd : decide ((4000 : Int) < (q4 : Int)) = true := decide_eq_true h4'
            clear h4'
            have hup2 : ((q4 : Nat) : Int) ≤ 9223372036854775807 := by omega
            have hup3 : ¬ (9223372036854775807 : Int) < (q4 : Int) := by omega
            have hup4 : IntKind.i64.wrap (q4 : Int) = (q4 : Int) := by rw [IntKind.wrap_i64]; omega
            go_wp2_with fail
            go_ret2
            rw [HX.out]
            exact ⟨bstep h1 hb4, .inr ⟨by omega, rfl⟩⟩
      · obtain rfl : k = n := by omega
        have HT : Hid (thenTo pss k = thenL pss) := Lib.hid (thenTo_all (by rw [HN.out]; exact Nat.le_refl _))
        rw [HT.out] at HO HK4
        have HM := Lib.hid (fun x => thenTo_mem (l := pss) (k := k) (x := x) HV.out)
        rw [HT.out] at HM
        have HJ := Lib.hid (fun W b cap h => join_any W b 0 cap [thenL pss] (thenL pss) (by simp) h (by simp) (by have := HK4.out; omega) (fun x hx => by have := HM.out x hx; omega))
        have HF := Lib.hid (fun w' e h => fits_is (w := w) (w' := w') (e := e) (allR_then HV.out) HV.out H28.out h)
        obtain ⟨a2, c2, rfl⟩ := HO.out.arg.form
        have HL := Lib.hid (lit_pieces _ [.slice a2 (thenL pss).length c2] [thenL pss] ⟨HO.out.arg, trivial⟩)
        have hba := Lib.hid (hb.alloc hb.size (.cells #[.slice a2 (thenL pss).length c2] 23))
        clear hb hsz HO
        go_wp2_with fail
        refine (HJ.out _ _ 1 HL.out).mono ?_
        rintro e w4 ⟨h4, hJ⟩
        have HB := Lib.hid (HF.out w4 e ⟨bstep hba.out h4, hJ⟩)
        clear h4
        rcases hJ with ⟨_, v, rfl, hA⟩ | ⟨hn, rfl⟩
        · clear hA
          go_wp2_with fail
          go_ret2
          exact HB.out
        · clear hn
          go_wp2_with fail
          go_ret2
          exact HB.out
end Go.Proofs.Ytmhoacnbmbhcjab

namespace Go.Proofs.Ytmhoacnbmbhcjab
open Go.RowKit Pl

theorem behind_len (p : List Ins) : (behind p).length = rn p - 1 + p.length := by unfold behind; rw [List.length_append, cleanL_len]
def yesL (n : Int) (p : List Ins) : List Ins := moveI 0 n :: behind p
def noL (n : Int) (q : List Ins) (k : Int) : List Ins := moveI 0 n :: behind q ++ [setI n [49, 48, 48], jumpI n (1 + k)]
theorem yesL_len (n : Int) (p : List Ins) : (yesL n p).length = (behind p).length + 1 := rfl
theorem noL_len (n : Int) (q : List Ins) (k : Int) : (noL n q k).length = (behind q).length + 3 := by simp [noL]
theorem ifL_is (c p q : List Ins) {n : Nat} (hn : max (max (rn c) (rn p)) (rn q) = n) {y o : Nat} (hy : (yesL n p).length = y) (ho : (noL n q y).length = o) :
    ([[moveI n 0], c, [jumpI 0 (1 + (o : Int))], noL n q y, yesL n p] : List (List Ins)).flatten = ifL c p q := by
  have e1 : (1 : Int) + (o : Int) = ((behind q).length : Int) + 4 := by rw [← ho, noL_len]; omega
  have e2 : (1 : Int) + (y : Int) = ((behind p).length : Int) + 2 := by rw [← hy, yesL_len]; omega
  unfold ifL
  rw [hn, e1]
  unfold noL
  rw [e2]
  simp [yesL]
theorem valid_tree {p : List Ins} (h : PValid p) : ∀ x ∈ p, x.tree.length ≤ 2000000 := fun x hx => by
  have := tree_le x hx
  have := h.2.1
  omega
theorem allR_tree {cs : List Ins} (h : AllR cs) : ∀ x ∈ cs, x.tree.length ≤ 281474976710656 := fun x hx => by
  obtain ⟨k, hk⟩ := List.mem_iff_getElem?.1 hx
  have := right_tree_le (h k x hk)
  omega
/-- sizes of what comes in -/
def SizeP (p : List Ins) : Prop := p.length ≤ 281474976710656 ∧ ∀ x ∈ p, x.tree.length ≤ 281474976710656
theorem max3 (a b c : Nat) : maxL [a, b, c] = max (max a b) c := by simp [maxL]
theorem max2 (a b : Nat) : maxL [a, b] = max a b := by simp [maxL]
theorem ifL_len (c p q : List Ins) : (ifL c p q).length = c.length + (behind p).length + (behind q).length + 6 := by
  unfold ifL
  simp only [List.length_append, List.length_cons, List.length_nil]; omega
set_option maxHeartbeats 3200000 in
set_option maxRecDepth 100000 in
theorem If_any (w : World) (vc vp vq : Value) (c p q : List Ins) (hc : ArgP w vc c) (hp : ArgP w vp p) (hq : ArgP w vq q) (sc : SizeP c) (sp : SizeP p) (sq : SizeP q) :
    Calls Try.prog 23 #[vc, vp, vq] w (BPost w (dueP [c, p, q] (ifL c p q)) (ifL c p q)) := by
  have HR := Lib.hid (bregs_any _ w.heap.size 0 3 [c, p, q] (lit_pieces w [vc, vp, vq] [c, p, q] ⟨hc, hp, hq, trivial⟩) (by simp) (by
    intro x hx
    simp only [List.mem_cons, List.not_mem_nil, or_false] at hx
    rcases hx with rfl | rfl | rfl
    · exact sc
    · exact sp
    · exact sq))
  have HC := Lib.hid (fun W (h : Below w.heap.size w W) => hc.below h)
  have HP := Lib.hid (fun W (h : Below w.heap.size w W) => hp.below h)
  have HQ := Lib.hid (fun W (h : Below w.heap.size w W) => hq.below h)
  obtain ⟨ac, cc, rfl⟩ := hc.form
  obtain ⟨ap, cp, rfl⟩ := hp.form
  obtain ⟨aq, cq, rfl⟩ := hq.form
  have hb0 := Lib.hid (alloc_below w (.cells #[.slice ac c.length cc, .slice ap p.length cp, .slice aq q.length cq] 23))
  clear hc hp hq sc sp sq
  go_enter Try.func23, Try.ntmps23
  go_wp2_with fail
  refine HR.out.mono ?_
  rintro e w1 ⟨h1, hR⟩
  have hb1 := Lib.hid (bstep hb0.out h1)
  clear HR h1
  rcases hR with ⟨rfl, hx⟩ | ⟨hv, ⟨rfl, hx⟩ | ⟨h28, g, rfl, hN⟩⟩
  · have HX := Lib.hid (due_form (cs := ifL c p q) hx)
    clear hx
    go_wp2_with fail
    go_ret2
    rw [HX.out]
    exact ⟨hb1.out, .inr ⟨by omega, rfl⟩⟩
  · have HX := Lib.hid (due_regs (cs := ifL c p q) hv hx)
    clear hx hv
    go_wp2_with fail
    go_ret2
    rw [HX.out]
    exact ⟨hb1.out, .inr ⟨by omega, rfl⟩⟩
  · have c28 := h28 c (by simp); have p28 := h28 p (by simp); have q28 := h28 q (by simp)
    have cv := hv c (by simp); have pv := hv p (by simp); have qv := hv q (by simp)
    have HF := Lib.hid (fun w' e h => fits_is (w := w) (w' := w') (e := e) (allR_if cv pv qv c28 p28 q28) hv h28 h)
    have HTR := Lib.hid (allR_tree (allR_if cv pv qv c28 p28 q28))
    have HM := Lib.hid (fun W (h : NumsAt W g 0 [rn c, rn p, rn q]) => Max_any W g 0 3 [rn c, rn p, rn q] h (by simp) (by simp) (by simp; omega))
    rw [max3] at HM
    have HIF := Lib.hid (fun (n y o : Nat) => ifL_is (n := n) (y := y) (o := o) c p q)
    have hl1 := cv.1; have hl2 := pv.1; have hl3 := qv.1
    have HLEN := Lib.hid (ifL_len c p q)
    have HBP := Lib.hid (behind_len p); have HBQ := Lib.hid (behind_len q)
    generalize hn : max (max (rn c) (rn p)) (rn q) = n at *
    have hn28 : n ≤ 28 := by omega
    have HN := Lib.hid hn
    have HNA := Lib.hid (show NumsAt w1 g 0 [rn c, rn p, rn q] from hN)
    have HA1 := Lib.hid (fun W => again_any (n : Int) (rn p) (by omega) W)
    have HA2 := Lib.hid (fun W => again_any (n : Int) (rn q) (by omega) W)
    clear hv h28 hN hn cv pv qv
    go_wp2_with fail
    refine (HM.out _ HNA.out).mono ?_
    rintro e w2 ⟨rfl, h2⟩
    have hb2 := Lib.hid (bstep hb1.out h2)
    have HNA2 := Lib.hid (HNA.out.below h2)
    have c1 : w2.cell? ⟨g, 1, none⟩ = some (.int .i64 (rn p : Int)) := HNA2.out.2 1 (rn p) rfl
    clear h2
    go_wp2_with fail
    refine (HA1.out _).mono ?_
    rintro e w3 ⟨v3, rfl, ho3, h3⟩
    obtain ⟨a3, d3, rfl⟩ := ho3.arg.form
    have hb3 := Lib.hid (bstep hb2.out h3)
    have HNA3 := Lib.hid (HNA2.out.below h3)
    have HL3 := Lib.hid (lit_pieces w3 [.slice a3 (moveI 0 (n : Int) :: cleanL (rn p)).length d3, .slice ap p.length cp] [moveI 0 (n : Int) :: cleanL (rn p), p] ⟨ho3.arg, HP.out _ hb3.out, trivial⟩)
    have hb3a := Lib.hid (hb3.out.alloc hb3.out.size (.cells #[.slice a3 (moveI 0 (n : Int) :: cleanL (rn p)).length d3, .slice ap p.length cp] 23))
    have HNA3a := Lib.hid (HNA3.out.below (alloc_below w3 (.cells #[.slice a3 (moveI 0 (n : Int) :: cleanL (rn p)).length d3, .slice ap p.length cp] 23)))
    clear ho3 h3 c1
    have HY : Hid (([moveI 0 (n : Int) :: cleanL (rn p), p] : List (List Ins)).flatten = yesL n p) := Lib.hid (by simp [yesL, behind])
    have HC3 := Lib.hid (Concat_any _ w3.heap.size 0 2 _ HL3.out (by simp) (by rw [HY.out, yesL_len, HBP.out]; omega))
    rw [HY.out] at HC3
    go_wp2_with fail
    refine HC3.out.mono ?_
    rintro e w4 ⟨v4, rfl, ho4, h4⟩
    have HO4 : Hid (OwnP w4 w.heap.size v4 (yesL n p)) := Lib.hid (own_lower ho4 (by have := hb3a.out.size; simpa using this))
    obtain ⟨a4, d4, rfl⟩ := HO4.out.arg.form
    have hb4 := Lib.hid (bstep hb3a.out h4)
    have HNA4 := Lib.hid (HNA3a.out.below h4)
    have c2 : w4.cell? ⟨g, 2, none⟩ = some (.int .i64 (rn q : Int)) := HNA4.out.2 2 (rn q) rfl
    clear ho4 h4
    have HYL : Hid ((yesL n p).length ≤ 5000) := Lib.hid (by rw [yesL_len, HBP.out]; omega)
    have hyl := HYL.out
    generalize hy : (yesL n p).length = y at *
    have HYE := Lib.hid hy
    clear hy
    go_wp2_with fail
    refine (HA2.out _).mono ?_
    rintro e w5 ⟨v5, rfl, ho5, h5⟩
    obtain ⟨a5, d5, rfl⟩ := ho5.arg.form
    have hb5 := Lib.hid (bstep hb4.out h5)
    have HO5 := Lib.hid ho5.arg
    have HO45 := Lib.hid (HO4.out.below h5)
    have HNA5 := Lib.hid (HNA4.out.below h5)
    clear ho5 h5 c2
    go_wp2_with fail
    refine (skip_any (n : Int) (y : Int) (by omega) _).mono ?_
    rintro e w6 ⟨v6, rfl, ho6, h6⟩
    obtain ⟨a6, d6, rfl⟩ := ho6.arg.form
    have hb6 := Lib.hid (bstep hb5.out h6)
    have HO46 := Lib.hid (HO45.out.below h6)
    have HL6 := Lib.hid (lit_pieces w6 [.slice a5 (moveI 0 (n : Int) :: cleanL (rn q)).length d5, .slice aq q.length cq, .slice a6 2 d6] [moveI 0 (n : Int) :: cleanL (rn q), q, [setI n [49, 48, 48], jumpI n (1 + (y : Int))]] ⟨HO5.out.below h6, HQ.out _ hb6.out, ho6.arg, trivial⟩)
    have hb6a := Lib.hid (hb6.out.alloc hb6.out.size (.cells #[.slice a5 (moveI 0 (n : Int) :: cleanL (rn q)).length d5, .slice aq q.length cq, .slice a6 2 d6] 23))
    have HO46a := Lib.hid (HO46.out.below (alloc_below w6 (.cells #[.slice a5 (moveI 0 (n : Int) :: cleanL (rn q)).length d5, .slice aq q.length cq, .slice a6 2 d6] 23)))
    clear ho6 h6
    have HZ : Hid (([moveI 0 (n : Int) :: cleanL (rn q), q, [setI n [49, 48, 48], jumpI n (1 + (y : Int))]] : List (List Ins)).flatten = noL n q y) := Lib.hid (by simp [noL, behind])
    have HC6 := Lib.hid (Concat_any _ w6.heap.size 0 3 _ HL6.out (by simp) (by rw [HZ.out, noL_len, HBQ.out]; omega))
    rw [HZ.out] at HC6
    go_wp2_with fail
    refine HC6.out.mono ?_
    rintro e w7 ⟨v7, rfl, ho7, h7⟩
    have HO7 : Hid (OwnP w7 w.heap.size v7 (noL n q y)) := Lib.hid (own_lower ho7 (by have := hb6a.out.size; simpa using this))
    obtain ⟨a7, d7, rfl⟩ := HO7.out.arg.form
    have hb7 := Lib.hid (bstep hb6a.out h7)
    have HO47 := Lib.hid (HO46a.out.below h7)
    clear ho7 h7
    have HNL : Hid ((noL n q y).length ≤ 5000) := Lib.hid (by rw [noL_len, HBQ.out]; omega)
    have hol := HNL.out
    generalize ho : (noL n q y).length = o at *
    have HOE := Lib.hid ho
    clear ho
    go_wp2_with fail
    refine (bmove_is _ _ _).mono ?_
    rintro e w8 ⟨rfl, h8⟩
    have A8 := Lib.hid (lit_prog w8 [moveI n 0] (by simp))
    have hb8 := Lib.hid ((bstep hb7.out h8).alloc (bstep hb7.out h8).size (.cells (progV [moveI n 0]).toArray 39))
    have k8 : Below w7.heap.size w7 (w8.alloc (.cells (progV [moveI n 0]).toArray 39)) := h8.alloc h8.size _
    have HO48 := Lib.hid (HO47.out.below k8)
    have HO78 := Lib.hid (HO7.out.below k8)
    clear h8 k8
    go_wp2_with fail
    refine (bjump_is _ _ _).mono ?_
    rintro e w9 ⟨rfl, h9⟩
    have A9 := Lib.hid (lit_prog w9 [jumpI 0 (1 + (o : Int))] (by simp))
    have k9 := Lib.hid (h9.alloc h9.size (.cells (progV [jumpI 0 (1 + (o : Int))]).toArray 39))
    have hb9 := Lib.hid (bstep hb8.out k9.out)
    have HL9 := Lib.hid (lit_piecesB (w := w9.alloc (.cells (progV [jumpI 0 (1 + (o : Int))]).toArray 39)) (b := w9.heap.size + 1) (by simp)
      [.slice (some ⟨w8.heap.size, 0, none⟩) 1 1, .slice ac c.length cc, .slice (some ⟨w9.heap.size, 0, none⟩) 1 1, .slice a7 o d7, .slice a4 y d4]
      [[moveI n 0], c, [jumpI 0 (1 + (o : Int))], noL n q y, yesL n p]
      ⟨A8.out.below k9.out, HC.out _ hb9.out, A9.out, (HO78.out.below k9.out).arg, (HO48.out.below k9.out).arg, trivial⟩)
    have hb9a := Lib.hid (hb9.out.alloc hb9.out.size (.cells #[.slice (some ⟨w8.heap.size, 0, none⟩) 1 1, .slice ac c.length cc, .slice (some ⟨w9.heap.size, 0, none⟩) 1 1, .slice a7 o d7, .slice a4 y d4] 23))
    have HJ := Lib.hid (join_any _ (w9.heap.size + 1) 0 5 _ (ifL c p q) (HIF.out n y o rfl HYE.out HOE.out) HL9.out (by simp) (by have := HLEN.out; have := HBP.out; have := HBQ.out; omega) HTR.out)
    clear h9
    go_wp2_with fail
    refine HJ.out.mono ?_
    rintro e w10 ⟨h10, hJ⟩
    have HB := Lib.hid (HF.out w10 e ⟨bstep hb9a.out h10, hJ⟩)
    clear h10
    rcases hJ with ⟨_, v, rfl, hA⟩ | ⟨hn, rfl⟩
    · clear hA
      go_wp2_with fail
      go_ret2
      exact HB.out
    · clear hn
      go_wp2_with fail
      go_ret2
      exact HB.out
end Go.Proofs.Ytmhoacnbmbhcjab

namespace Go.Proofs.Ytmhoacnbmbhcjab
open Go.RowKit Pl

theorem rdep {md : Region.Mode} {ops : Array Oper} {listed : Array Bool} {i : Nat} {o : Oper} (hi : i ∈ Region.ready md ops listed) (ho : ops[i]? = some o) (e : Edge) (he : e ∈ o.after) (hb : Region.binds md e = true) : listed.getD e.on false = true := by
  obtain ⟨_, o', ho', h⟩ := mem_ready.1 hi
  rw [ho] at ho'
  obtain rfl := Option.some.inj ho'
  exact h e he hb
open Classical in
noncomputable def errOf (cs : List Ins) : Int := if PValid cs then 0 else 3
def ResP (w : World) (v : Value) (cs : List Ins) : Prop := (PValid cs → ArgP w v cs) ∧ (¬ PValid cs → v = .slice none 0 0)
inductive RK
  | val (y : Value)
  | prog (ps : List Ins)
  | pcs (pss : List (List Ins))
  | tup (cs : List Ins)
  | res (cs : List Ins)
def RK.ok (w : World) (x : Value) : RK → Prop
  | .val y => x = y
  | .prog ps => ∃ a c, x = .slice a ps.length c ∧ ArgP w (.slice a ps.length c) ps
  | .pcs pss => ∃ b, x = .slice (some ⟨b, 0, none⟩) pss.length pss.length ∧ PiecesAt w b 0 pss
  | .tup cs => ∃ v, x = .tuple #[v, .int .i64 (errOf cs)] ∧ ResP w v cs
  | .res cs => ResP w x cs
theorem ResP.below {w w1 : World} {v : Value} {cs : List Ins} (h : ResP w v cs) (hb : Below w.heap.size w w1) : ResP w1 v cs := ⟨fun hp => (h.1 hp).below hb, h.2⟩
theorem RK.ok.below {w w1 : World} {x : Value} {k : RK} (h : k.ok w x) (hb : Below w.heap.size w w1) : k.ok w1 x := by
  cases k with
  | val y => exact h
  | prog ps => obtain ⟨a, c, h1, h2⟩ := h; exact ⟨a, c, h1, h2.below hb⟩
  | pcs pss => obtain ⟨b, h1, h2⟩ := h; exact ⟨b, h1, h2.below hb⟩
  | tup cs => obtain ⟨v, h1, h2⟩ := h; exact ⟨v, h1, h2.below hb⟩
  | res cs => exact ResP.below h hb
theorem RK.step {K : Nat → RK} {sl : Nat → Nat} (hinj : ∀ i j, i ≠ j → sl i ≠ sl j) {w w1 : World} {listed : Array Bool} {i s : Nat} {v : Nat → Value} {x : Value} (hs : sl i = s) (hb : Below w.heap.size w w1)
    (hG : ∀ j, listed.getD j false = true → (K j).ok w (v (sl j))) (hx : (K i).ok w1 x) :
    ∀ j, (listed.setIfInBounds i true).getD j false = true → (K j).ok w1 ((fun k => if k = s then x else v k) (sl j)) := by
  intro j hj
  by_cases h : j = i
  · subst h; simp only [hs, if_true]; exact hx
  · have h1 := hinj j i h
    rw [hs] at h1
    simp only [if_neg h1]
    exact (hG j (by rwa [getD_set_ne false (Ne.symm h)] at hj)).below hb
theorem JoinPost.res {w w' : World} {cs : List Ins} {e : Ending} (h : JoinPost w cs e w') : Below w.heap.size w w' ∧ ∃ v, e = .returned (.tuple #[v, .int .i64 (errOf cs)]) ∧ ResP w' v cs := by
  refine ⟨h.1, ?_⟩
  unfold errOf
  rcases h.2 with ⟨h1, v, rfl, h2⟩ | ⟨h1, rfl⟩
  · rw [if_pos h1]; exact ⟨v, rfl, fun _ => h2, fun h => absurd h1 h⟩
  · rw [if_neg h1]; exact ⟨_, rfl, fun h => absurd h h1, fun _ => rfl⟩
theorem fits_res {cs : List Ins} (hr : AllR cs) {w w' : World} {v : Value} {l : List (List Ins)} (hv : ∀ p ∈ l, PValid p) (h2 : ∀ p ∈ l, rn p ≤ 28) (hb : Below w.heap.size w w') (h : ResP w' v cs) :
    BPost w (dueP l cs) cs (.returned (.tuple #[v, .int .i64 (errOf cs)])) w' := by
  refine fits_is hr hv h2 ⟨hb, ?_⟩
  unfold errOf
  by_cases h1 : PValid cs
  · rw [if_pos h1]; exact .inl ⟨h1, v, rfl, h.1 h1⟩
  · rw [if_neg h1, h.2 h1]; exact .inr ⟨h1, rfl⟩
/-- an operation that has been listed has been carried out -/
theorem start_none {n j : Nat} (h : (Array.replicate n false).getD j false = true) : False := by
  rw [Array.getD_eq_getD_getElem?, Array.getElem?_replicate] at h
  split at h <;> simp at h
theorem one_prog (w : World) (x : Ins) : RK.ok (w.alloc (.cells (progV [x]).toArray 39)) (.slice (some ⟨w.heap.size, 0, none⟩) 1 1) (.prog [x]) := ⟨_, _, rfl, lit_prog w [x] (by simp)⟩
end Go.Proofs.Ytmhoacnbmbhcjab

namespace Go.Proofs.Ytmhoacnbmbhcjab
open Go.RowKit Pl

theorem pairL_is (p q : List Ins) {n : Nat} (hn : max (rn p) (rn q) = n) :
    ([[moveI n 0], p, [moveI ((n : Int) + 1) 0], moveI 0 n :: cleanL (rn q), q, [consI 0 ((n : Int) + 1) 0]] : List (List Ins)).flatten = pairL p q := by
  unfold pairL behind
  rw [hn]
  simp
theorem pairL_len (p q : List Ins) : (pairL p q).length = p.length + (behind q).length + 4 := by
  unfold pairL
  simp only [List.length_append, List.length_cons, List.length_nil]; omega
noncomputable def pairK (n : Nat) (g : Nat) (p q : List Ins) (vp vq : Value) : Nat → RK
  | 0 => .val (.int .i64 (n : Int))
  | 1 => .val (.agg #[.int .i64 1, .int .i64 (n : Int), .int .i64 0, .int .i64 0, .string ⟨#[]⟩])
  | 2 => .prog [moveI (n : Int) 0]
  | 3 => .val vp
  | 4 => .val (.int .i64 (n : Int))
  | 5 => .val (.int .i64 ((n : Int) + 1))
  | 6 => .val (.agg #[.int .i64 1, .int .i64 ((n : Int) + 1), .int .i64 0, .int .i64 0, .string ⟨#[]⟩])
  | 7 => .prog [moveI ((n : Int) + 1) 0]
  | 8 => .val (.int .i64 (n : Int))
  | 9 => .val (.slice (some ⟨g, 0, none⟩) 2 2)
  | 10 => .val (.pointer (some ⟨g, 1, none⟩))
  | 11 => .val (.int .i64 (rn q : Int))
  | 12 => .prog (moveI 0 (n : Int) :: cleanL (rn q))
  | 13 => .val vq
  | 14 => .val (.int .i64 (n : Int))
  | 15 => .val (.int .i64 ((n : Int) + 1))
  | 16 => .val (.agg #[.int .i64 2, .int .i64 0, .int .i64 ((n : Int) + 1), .int .i64 0, .string ⟨#[]⟩])
  | 17 => .prog [consI 0 ((n : Int) + 1) 0]
  | 18 => .pcs [[moveI (n : Int) 0], p, [moveI ((n : Int) + 1) 0], moveI 0 (n : Int) :: cleanL (rn q), q, [consI 0 ((n : Int) + 1) 0]]
  | 19 => .tup (pairL p q)
  | 20 => .res (pairL p q)
  | 21 => .val (.int .i64 (errOf (pairL p q)))
  | 22 => .res (pairL p q)
  | _ => .val (.int .i64 (errOf (pairL p q)))
def pairS (j : Nat) : Nat := if j = 22 then 4 else if j = 23 then 5 else j + 21
theorem pairS_ne (i j : Nat) (h : i ≠ j) : pairS i ≠ pairS j := by unfold pairS; (repeat' split) <;> omega
set_option maxHeartbeats 6400000 in
set_option maxRecDepth 100000 in
theorem Pair_any (w : World) (vp vq : Value) (p q : List Ins) (hp : ArgP w vp p) (hq : ArgP w vq q) (sp : SizeP p) (sq : SizeP q) :
    Calls Try.prog 21 #[vp, vq] w (BPost w (dueP [p, q] (pairL p q)) (pairL p q)) := by
  have HR := Lib.hid (bregs_any _ w.heap.size 0 2 [p, q] (lit_pieces w [vp, vq] [p, q] ⟨hp, hq, trivial⟩) (by simp) (by
    intro x hx
    simp only [List.mem_cons, List.not_mem_nil, or_false] at hx
    rcases hx with rfl | rfl
    · exact sp
    · exact sq))
  have HP := Lib.hid (fun W (h : Below w.heap.size w W) => hp.below h)
  have HQ := Lib.hid (fun W (h : Below w.heap.size w W) => hq.below h)
  obtain ⟨ap, cp, rfl⟩ := hp.form
  obtain ⟨aq, cq, rfl⟩ := hq.form
  have hb0 := Lib.hid (alloc_below w (.cells #[.slice ap p.length cp, .slice aq q.length cq] 23))
  clear hp hq sp sq
  go_enter Try.func21, Try.ntmps21
  go_wp2_with fail
  refine HR.out.mono ?_
  rintro e w1 ⟨h1, hR⟩
  have hb1 := Lib.hid (bstep hb0.out h1)
  clear HR h1
  rcases hR with ⟨rfl, hx⟩ | ⟨hv, ⟨rfl, hx⟩ | ⟨h28, g, rfl, hN⟩⟩
  · have HX := Lib.hid (due_form (cs := pairL p q) hx)
    clear hx
    go_wp2_with fail
    go_ret2
    rw [HX.out]
    exact ⟨hb1.out, .inr ⟨by omega, rfl⟩⟩
  · have HX := Lib.hid (due_regs (cs := pairL p q) hv hx)
    clear hx hv
    go_wp2_with fail
    go_ret2
    rw [HX.out]
    exact ⟨hb1.out, .inr ⟨by omega, rfl⟩⟩
  · have p28 := h28 p (by simp); have q28 := h28 q (by simp)
    have pv := hv p (by simp); have qv := hv q (by simp)
    have HF := Lib.hid (fun w' v h => fits_res (w := w) (w' := w') (v := v) (allR_pair pv qv p28 q28) hv h28 h)
    have HTR := Lib.hid (allR_tree (allR_pair pv qv p28 q28))
    have HM := Lib.hid (fun W (h : NumsAt W g 0 [rn p, rn q]) => Max_any W g 0 2 [rn p, rn q] h (by simp) (by simp) (by simp; omega))
    rw [max2] at HM
    have HIF := Lib.hid (fun (n : Nat) => pairL_is (n := n) p q)
    have hl2 := pv.1; have hl3 := qv.1
    have HLEN := Lib.hid (pairL_len p q)
    have HBQ := Lib.hid (behind_len q)
    generalize hn : max (rn p) (rn q) = n at *
    have hn28 : n ≤ 28 := by omega
    have hni : (n : Int) ≤ 28 := by omega
    have hw1 : IntKind.i64.wrap ((n : Int) + 1) = (n : Int) + 1 := by rw [IntKind.wrap_i64]; omega
    have HNA := Lib.hid (show NumsAt w1 g 0 [rn p, rn q] from hN)
    have HA2 := Lib.hid (fun W => again_any (n : Int) (rn q) (by omega) W)
    clear hv h28 hN hn pv qv
    go_wp2_with fail
    refine (HM.out _ HNA.out).mono ?_
    rintro e w2 ⟨rfl, h2⟩
    have hb2 := Lib.hid (bstep hb1.out h2)
    have HNA2 := Lib.hid (HNA.out.below h2)
    have c1 : w2.cell? ⟨g, 1, none⟩ = some (.int .i64 (rn q : Int)) := HNA2.out.2 1 (rn q) rfl
    have C1 := Lib.hid c1
    clear h2
    go_wp2_with fail
    generalize hW0 : w2 = W0 at *
    refine wp_region_inv (P := Try.prog) (fun listed a' w' => ∃ v : Nat → Value, a' = { tmps := #[.slice ap p.length cp, .slice aq q.length cq, undef, undef, v 4, v 5, .slice (some ⟨g, 0, none⟩) 2 2, .int .i64 0, .int .i64 (n : Int), .tuple #[.slice (some ⟨g, 0, none⟩) 2 2, .int .i64 0], .slice ap p.length cp, .slice aq q.length cq, .slice (some ⟨w.heap.size, 0, none⟩) 2 2, .tuple #[.slice (some ⟨g, 0, none⟩) 2 2, .int .i64 0], .slice (some ⟨g, 0, none⟩) 2 2, .int .i64 0, .int .i64 0, .bool false, undef, .slice (some ⟨g, 0, none⟩) 2 2, .int .i64 (n : Int), v 21, v 22, v 23, v 24, v 25, v 26, v 27, v 28, v 29, v 30, v 31, v 32, v 33, v 34, v 35, v 36, v 37, v 38, v 39, v 40, v 41, v 42], defers := [] } ∧ Below W0.heap.size W0 w' ∧
      ∀ j, listed.getD j false = true → (pairK n g p q (.slice ap p.length cp) (.slice aq q.length cq) j).ok w' (v (pairS j))) (by kernel_rfl) ?start ?step ?done
    case start =>
      refine ⟨fun k => if k = 4 then .slice none 0 0 else if k = 5 then .int .i64 0 else undef, rfl, (Below.refl _ _).drew, fun j hj => (start_none hj).elim⟩
    case done =>
      rintro listed a' w' hs hr ⟨v, rfl, hb, hG⟩
      have h22 : ResP w' (v 4) (pairL p q) := hG 22 (all_listed hs (by kernel_rfl) hr 22 (by decide))
      have h23 : v 5 = .int .i64 (errOf (pairL p q)) := hG 23 (all_listed hs (by kernel_rfl) hr 23 (by decide))
      have HB := Lib.hid (HF.out w' (v 4) (bstep hb2.out hb) h22)
      generalize v 4 = v4 at *
      rw [h23]
      clear hG hs hr h22 h23
      go_wp2_with fail
      go_ret2
      exact HB.out
    case step =>
      rintro listed a' w' i hs ⟨v, rfl, hb, hG⟩ hi
      have cell1 : w'.cell? ⟨g, 1, none⟩ = some (.int .i64 (rn q : Int)) := (HNA2.out.below hb).2 1 (rn q) rfl
      have hlt : i = 0 ∨ i = 1 ∨ i = 2 ∨ i = 3 ∨ i = 4 ∨ i = 5 ∨ i = 6 ∨ i = 7 ∨ i = 8 ∨ i = 9 ∨ i = 10 ∨ i = 11 ∨ i = 12 ∨ i = 13 ∨ i = 14 ∨ i = 15 ∨ i = 16 ∨ i = 17 ∨ i = 18 ∨ i = 19 ∨ i = 20 ∨ i = 21 ∨ i = 22 ∨ i = 23 := by
        obtain ⟨_, o, ho, _⟩ := mem_ready.1 hi
        have := (Array.getElem?_eq_some_iff.1 ho).1
        simp at this; omega
      rcases hlt with rfl | rfl | rfl | rfl | rfl | rfl | rfl | rfl | rfl | rfl | rfl | rfl | rfl | rfl | rfl | rfl | rfl | rfl | rfl | rfl | rfl | rfl | rfl | rfl
      · refine wpOp_step rfl (fun K' hK => ?_)
        go_simp
        exact hK _ _ ⟨fun k => if k = 21 then ((.int .i64 (n : Int))) else v k, rfl, hb, RK.step (K := pairK n g p q (.slice ap p.length cp) (.slice aq q.length cq)) pairS_ne (i := 0) (s := 21) rfl (Below.refl _ _) hG rfl⟩
      · have d0 : v 21 = (.int .i64 (n : Int)) := hG 0 (rdep hi rfl ⟨0, .data⟩ (by simp) rfl)
        refine wpOp_step rfl (fun K' hK => ?_)
        go_simp
        refine (bmove_is _ _ _).mono ?_
        rintro e w4 ⟨rfl, h4⟩
        exact hK _ _ ⟨fun k => if k = 22 then ((.agg #[.int .i64 1, .int .i64 (n : Int), .int .i64 0, .int .i64 0, .string ⟨#[]⟩])) else v k, by simp [d0], hb.trans (h4.mono hb.size), RK.step (K := pairK n g p q (.slice ap p.length cp) (.slice aq q.length cq)) pairS_ne (i := 1) (s := 22) rfl h4 hG rfl⟩
      · have d1 : v 22 = (.agg #[.int .i64 1, .int .i64 (n : Int), .int .i64 0, .int .i64 0, .string ⟨#[]⟩]) := hG 1 (rdep hi rfl ⟨1, .data⟩ (by simp) rfl)
        refine wpOp_step rfl (fun K' hK => ?_)
        go_simp
        exact hK _ _ ⟨fun k => if k = 23 then (.slice (some ⟨w'.heap.size, 0, none⟩) 1 1) else v k, by simp [d1], hb.alloc hb.size _, RK.step (K := pairK n g p q (.slice ap p.length cp) (.slice aq q.length cq)) pairS_ne (i := 2) (s := 23) rfl (alloc_below _ _) hG (one_prog w' (moveI (n : Int) 0))⟩
      · refine wpOp_step rfl (fun K' hK => ?_)
        go_simp
        exact hK _ _ ⟨fun k => if k = 24 then (.slice ap p.length cp) else v k, rfl, hb, RK.step (K := pairK n g p q (.slice ap p.length cp) (.slice aq q.length cq)) pairS_ne (i := 3) (s := 24) rfl (Below.refl _ _) hG rfl⟩
      · refine wpOp_step rfl (fun K' hK => ?_)
        go_simp
        exact hK _ _ ⟨fun k => if k = 25 then ((.int .i64 (n : Int))) else v k, rfl, hb, RK.step (K := pairK n g p q (.slice ap p.length cp) (.slice aq q.length cq)) pairS_ne (i := 4) (s := 25) rfl (Below.refl _ _) hG rfl⟩
      · have d4 : v 25 = (.int .i64 (n : Int)) := hG 4 (rdep hi rfl ⟨4, .data⟩ (by simp) rfl)
        refine wpOp_step rfl (fun K' hK => ?_)
        go_simp
        exact hK _ _ ⟨fun k => if k = 26 then ((.int .i64 ((n : Int) + 1))) else v k, by simp [d4], hb, RK.step (K := pairK n g p q (.slice ap p.length cp) (.slice aq q.length cq)) pairS_ne (i := 5) (s := 26) rfl (Below.refl _ _) hG rfl⟩
      · have d5 : v 26 = (.int .i64 ((n : Int) + 1)) := hG 5 (rdep hi rfl ⟨5, .data⟩ (by simp) rfl)
        refine wpOp_step rfl (fun K' hK => ?_)
        go_simp
        refine (bmove_is _ _ _).mono ?_
        rintro e w4 ⟨rfl, h4⟩
        exact hK _ _ ⟨fun k => if k = 27 then ((.agg #[.int .i64 1, .int .i64 ((n : Int) + 1), .int .i64 0, .int .i64 0, .string ⟨#[]⟩])) else v k, by simp [d5], hb.trans (h4.mono hb.size), RK.step (K := pairK n g p q (.slice ap p.length cp) (.slice aq q.length cq)) pairS_ne (i := 6) (s := 27) rfl h4 hG rfl⟩
      · have d6 : v 27 = (.agg #[.int .i64 1, .int .i64 ((n : Int) + 1), .int .i64 0, .int .i64 0, .string ⟨#[]⟩]) := hG 6 (rdep hi rfl ⟨6, .data⟩ (by simp) rfl)
        refine wpOp_step rfl (fun K' hK => ?_)
        go_simp
        exact hK _ _ ⟨fun k => if k = 28 then (.slice (some ⟨w'.heap.size, 0, none⟩) 1 1) else v k, by simp [d6], hb.alloc hb.size _, RK.step (K := pairK n g p q (.slice ap p.length cp) (.slice aq q.length cq)) pairS_ne (i := 7) (s := 28) rfl (alloc_below _ _) hG (one_prog w' (moveI ((n : Int) + 1) 0))⟩
      · refine wpOp_step rfl (fun K' hK => ?_)
        go_simp
        exact hK _ _ ⟨fun k => if k = 29 then ((.int .i64 (n : Int))) else v k, rfl, hb, RK.step (K := pairK n g p q (.slice ap p.length cp) (.slice aq q.length cq)) pairS_ne (i := 8) (s := 29) rfl (Below.refl _ _) hG rfl⟩
      · refine wpOp_step rfl (fun K' hK => ?_)
        go_simp
        exact hK _ _ ⟨fun k => if k = 30 then ((.slice (some ⟨g, 0, none⟩) 2 2)) else v k, rfl, hb, RK.step (K := pairK n g p q (.slice ap p.length cp) (.slice aq q.length cq)) pairS_ne (i := 9) (s := 30) rfl (Below.refl _ _) hG rfl⟩
      · have d9 : v 30 = (.slice (some ⟨g, 0, none⟩) 2 2) := hG 9 (rdep hi rfl ⟨9, .data⟩ (by simp) rfl)
        refine wpOp_step rfl (fun K' hK => ?_)
        go_simp
        exact hK _ _ ⟨fun k => if k = 31 then ((.pointer (some ⟨g, 1, none⟩))) else v k, by simp [d9], hb, RK.step (K := pairK n g p q (.slice ap p.length cp) (.slice aq q.length cq)) pairS_ne (i := 10) (s := 31) rfl (Below.refl _ _) hG rfl⟩
      · have d10 : v 31 = (.pointer (some ⟨g, 1, none⟩)) := hG 10 (rdep hi rfl ⟨10, .data⟩ (by simp) rfl)
        refine wpOp_step rfl (fun K' hK => ?_)
        go_simp
        exact hK _ _ ⟨fun k => if k = 32 then ((.int .i64 (rn q : Int))) else v k, by simp [d10], hb, RK.step (K := pairK n g p q (.slice ap p.length cp) (.slice aq q.length cq)) pairS_ne (i := 11) (s := 32) rfl (Below.refl _ _) hG rfl⟩
      · have d8 : v 29 = (.int .i64 (n : Int)) := hG 8 (rdep hi rfl ⟨8, .data⟩ (by simp) rfl)
        have d11 : v 32 = (.int .i64 (rn q : Int)) := hG 11 (rdep hi rfl ⟨11, .data⟩ (by simp) rfl)
        refine wpOp_step rfl (fun K' hK => ?_)
        go_simp
        refine (HA2.out _).mono ?_
        rintro e w4 ⟨v10, rfl, ho10, h4⟩
        obtain ⟨a10, d10, e10⟩ := ho10.arg.form
        exact hK _ _ ⟨fun k => if k = 33 then (v10) else v k, by simp [d8, d11], hb.trans (h4.mono hb.size), RK.step (K := pairK n g p q (.slice ap p.length cp) (.slice aq q.length cq)) pairS_ne (i := 12) (s := 33) rfl h4 hG ⟨a10, d10, e10, e10 ▸ ho10.arg⟩⟩
      · refine wpOp_step rfl (fun K' hK => ?_)
        go_simp
        exact hK _ _ ⟨fun k => if k = 34 then (.slice aq q.length cq) else v k, rfl, hb, RK.step (K := pairK n g p q (.slice ap p.length cp) (.slice aq q.length cq)) pairS_ne (i := 13) (s := 34) rfl (Below.refl _ _) hG rfl⟩
      · refine wpOp_step rfl (fun K' hK => ?_)
        go_simp
        exact hK _ _ ⟨fun k => if k = 35 then ((.int .i64 (n : Int))) else v k, rfl, hb, RK.step (K := pairK n g p q (.slice ap p.length cp) (.slice aq q.length cq)) pairS_ne (i := 14) (s := 35) rfl (Below.refl _ _) hG rfl⟩
      · have d14 : v 35 = (.int .i64 (n : Int)) := hG 14 (rdep hi rfl ⟨14, .data⟩ (by simp) rfl)
        refine wpOp_step rfl (fun K' hK => ?_)
        go_simp
        exact hK _ _ ⟨fun k => if k = 36 then ((.int .i64 ((n : Int) + 1))) else v k, by simp [d14], hb, RK.step (K := pairK n g p q (.slice ap p.length cp) (.slice aq q.length cq)) pairS_ne (i := 15) (s := 36) rfl (Below.refl _ _) hG rfl⟩
      · have d15 : v 36 = (.int .i64 ((n : Int) + 1)) := hG 15 (rdep hi rfl ⟨15, .data⟩ (by simp) rfl)
        refine wpOp_step rfl (fun K' hK => ?_)
        go_simp
        refine (bcons_is _ _ _ _).mono ?_
        rintro e w4 ⟨rfl, h4⟩
        exact hK _ _ ⟨fun k => if k = 37 then ((.agg #[.int .i64 2, .int .i64 0, .int .i64 ((n : Int) + 1), .int .i64 0, .string ⟨#[]⟩])) else v k, by simp [d15], hb.trans (h4.mono hb.size), RK.step (K := pairK n g p q (.slice ap p.length cp) (.slice aq q.length cq)) pairS_ne (i := 16) (s := 37) rfl h4 hG rfl⟩
      · have d16 : v 37 = (.agg #[.int .i64 2, .int .i64 0, .int .i64 ((n : Int) + 1), .int .i64 0, .string ⟨#[]⟩]) := hG 16 (rdep hi rfl ⟨16, .data⟩ (by simp) rfl)
        refine wpOp_step rfl (fun K' hK => ?_)
        go_simp
        exact hK _ _ ⟨fun k => if k = 38 then (.slice (some ⟨w'.heap.size, 0, none⟩) 1 1) else v k, by simp [d16], hb.alloc hb.size _, RK.step (K := pairK n g p q (.slice ap p.length cp) (.slice aq q.length cq)) pairS_ne (i := 17) (s := 38) rfl (alloc_below _ _) hG (one_prog w' (consI 0 ((n : Int) + 1) 0))⟩
      · obtain ⟨x2, c2, d2, A2⟩ : ∃ a c, v 23 = .slice a ([moveI (n : Int) 0]).length c ∧ ArgP w' (.slice a ([moveI (n : Int) 0]).length c) ([moveI (n : Int) 0]) := hG 2 (rdep hi rfl ⟨2, .data⟩ (by simp) rfl)
        have d3 : v 24 = .slice ap p.length cp := hG 3 (rdep hi rfl ⟨3, .data⟩ (by simp) rfl)
        obtain ⟨x7, c7, d7, A7⟩ : ∃ a c, v 28 = .slice a ([moveI ((n : Int) + 1) 0]).length c ∧ ArgP w' (.slice a ([moveI ((n : Int) + 1) 0]).length c) ([moveI ((n : Int) + 1) 0]) := hG 7 (rdep hi rfl ⟨7, .data⟩ (by simp) rfl)
        obtain ⟨x12, c12, d12, A12⟩ : ∃ a c, v 33 = .slice a ((moveI 0 (n : Int) :: cleanL (rn q))).length c ∧ ArgP w' (.slice a ((moveI 0 (n : Int) :: cleanL (rn q))).length c) ((moveI 0 (n : Int) :: cleanL (rn q))) := hG 12 (rdep hi rfl ⟨12, .data⟩ (by simp) rfl)
        have d13 : v 34 = .slice aq q.length cq := hG 13 (rdep hi rfl ⟨13, .data⟩ (by simp) rfl)
        obtain ⟨x17, c17, d17, A17⟩ : ∃ a c, v 38 = .slice a ([consI 0 ((n : Int) + 1) 0]).length c ∧ ArgP w' (.slice a ([consI 0 ((n : Int) + 1) 0]).length c) ([consI 0 ((n : Int) + 1) 0]) := hG 17 (rdep hi rfl ⟨17, .data⟩ (by simp) rfl)
        refine wpOp_step rfl (fun K' hK => ?_)
        go_simp
        have hpc := lit_pieces w' [.slice x2 1 c2, .slice ap p.length cp, .slice x7 1 c7, .slice x12 (moveI 0 (n : Int) :: cleanL (rn q)).length c12, .slice aq q.length cq, .slice x17 1 c17] [[moveI (n : Int) 0], p, [moveI ((n : Int) + 1) 0], moveI 0 (n : Int) :: cleanL (rn q), q, [consI 0 ((n : Int) + 1) 0]] ⟨A2, HP.out _ (bstep hb2.out hb), A7, A12, HQ.out _ (bstep hb2.out hb), A17, trivial⟩
        exact hK _ _ ⟨fun k => if k = 39 then (.slice (some ⟨w'.heap.size, 0, none⟩) 6 6) else v k, by simp [d2, d3, d7, d12, d13, d17], hb.alloc hb.size _, RK.step (K := pairK n g p q (.slice ap p.length cp) (.slice aq q.length cq)) pairS_ne (i := 18) (s := 39) rfl (alloc_below _ _) hG ⟨_, rfl, hpc⟩⟩
      · obtain ⟨x18, d18, A18⟩ : ∃ b, v 39 = .slice (some ⟨b, 0, none⟩) 6 6 ∧ PiecesAt w' b 0 ([[moveI (n : Int) 0], p, [moveI ((n : Int) + 1) 0], moveI 0 (n : Int) :: cleanL (rn q), q, [consI 0 ((n : Int) + 1) 0]]) := hG 18 (rdep hi rfl ⟨18, .data⟩ (by simp) rfl)
        refine wpOp_step rfl (fun K' hK => ?_)
        go_simp
        refine (join_any _ x18 0 6 _ (pairL p q) (HIF.out n rfl) A18 (by simp) (by have := HLEN.out; have := HBQ.out; omega) HTR.out).mono ?_
        intro e w4 hJ
        obtain ⟨h4, v12, rfl, hcase⟩ := hJ.res
        exact hK _ _ ⟨fun k => if k = 40 then (.tuple #[v12, .int .i64 (errOf (pairL p q))]) else v k, by simp [d18], hb.trans (h4.mono hb.size), RK.step (K := pairK n g p q (.slice ap p.length cp) (.slice aq q.length cq)) pairS_ne (i := 19) (s := 40) rfl h4 hG ⟨_, rfl, hcase⟩⟩
      · obtain ⟨x19, d19, A19⟩ : ∃ u, v 40 = .tuple #[u, .int .i64 (errOf ((pairL p q)))] ∧ ResP w' u ((pairL p q)) := hG 19 (rdep hi rfl ⟨19, .data⟩ (by simp) rfl)
        refine wpOp_step rfl (fun K' hK => ?_)
        go_simp
        exact hK _ _ ⟨fun k => if k = 41 then (x19) else v k, by simp [d19], hb, RK.step (K := pairK n g p q (.slice ap p.length cp) (.slice aq q.length cq)) pairS_ne (i := 20) (s := 41) rfl (Below.refl _ _) hG A19⟩
      · obtain ⟨x19, d19, A19⟩ : ∃ u, v 40 = .tuple #[u, .int .i64 (errOf ((pairL p q)))] ∧ ResP w' u ((pairL p q)) := hG 19 (rdep hi rfl ⟨19, .data⟩ (by simp) rfl)
        refine wpOp_step rfl (fun K' hK => ?_)
        go_simp
        exact hK _ _ ⟨fun k => if k = 42 then ((.int .i64 (errOf (pairL p q)))) else v k, by simp [d19], hb, RK.step (K := pairK n g p q (.slice ap p.length cp) (.slice aq q.length cq)) pairS_ne (i := 21) (s := 42) rfl (Below.refl _ _) hG rfl⟩
      · have A20 : ResP w' (v 41) ((pairL p q)) := hG 20 (rdep hi rfl ⟨20, .data⟩ (by simp) rfl)
        refine wpOp_step rfl (fun K' hK => ?_)
        go_simp
        exact hK _ _ ⟨fun k => if k = 4 then (v 41) else v k, rfl, hb, RK.step (K := pairK n g p q (.slice ap p.length cp) (.slice aq q.length cq)) pairS_ne (i := 22) (s := 4) rfl (Below.refl _ _) hG A20⟩
      · have d21 : v 42 = (.int .i64 (errOf (pairL p q))) := hG 21 (rdep hi rfl ⟨21, .data⟩ (by simp) rfl)
        refine wpOp_step rfl (fun K' hK => ?_)
        go_simp
        exact hK _ _ ⟨fun k => if k = 5 then ((.int .i64 (errOf (pairL p q)))) else v k, by simp [d21], hb, RK.step (K := pairK n g p q (.slice ap p.length cp) (.slice aq q.length cq)) pairS_ne (i := 23) (s := 5) rfl (Below.refl _ _) hG rfl⟩
end Go.Proofs.Ytmhoacnbmbhcjab

namespace Go.Proofs.Ytmhoacnbmbhcjab
open Go.RowKit Pl

def bodyL (n : Int) (p : List Ins) : List Ins := moveI 0 n :: behind p ++ [setI n [49, 48, 48]]
def stopL (n k : Int) : List Ins := [moveI 0 n, setI n [49, 48, 48], jumpI n (1 + k)]
def loopL (n : Int) (c p : List Ins) (k : Int) : List Ins := (moveI n 0 :: behind c) ++ [jumpI 0 4] ++ stopL n k ++ bodyL n p
theorem bodyL_len (n : Int) (p : List Ins) : (bodyL n p).length = (behind p).length + 2 := by simp [bodyL]
theorem loopL_len (n : Int) (c p : List Ins) (k : Int) : (loopL n c p k).length = (behind c).length + (behind p).length + 7 := by
  unfold loopL stopL bodyL
  simp only [List.length_append, List.length_cons, List.length_nil]; omega
theorem whileL_is (c p : List Ins) {n : Nat} (hn : max (rn c) (rn p) = n) {y l : Nat} (hy : (bodyL n p).length = y) (hl : (loopL n c p ((y : Int) + 1)).length = l) :
    ([loopL n c p ((y : Int) + 1), [jumpI n (-(l : Int))]] : List (List Ins)).flatten = whileL c p := by
  have e1 : (1 : Int) + ((y : Int) + 1) = ((behind p).length : Int) + 4 := by rw [← hy, bodyL_len]; omega
  have e3 : loopL n c p ((y : Int) + 1) = [moveI n 0] ++ behind c ++ [jumpI 0 4, moveI 0 n, setI n [49, 48, 48], jumpI n (((behind p).length : Int) + 4), moveI 0 n] ++ behind p ++ [setI n [49, 48, 48]] := by
    unfold loopL stopL bodyL
    rw [e1]
    simp
  rw [← hl, e3]
  unfold whileL
  rw [hn]
  simp
theorem whileL_len (c p : List Ins) : (whileL c p).length = (behind c).length + (behind p).length + 8 := by
  unfold whileL
  simp only [List.length_append, List.length_cons, List.length_nil]; omega
noncomputable def whileK (n g : Nat) (c : List Ins) (vc : Value) : Nat → RK
  | 0 => .val (.int .i64 (n : Int))
  | 1 => .val (.agg #[.int .i64 1, .int .i64 (n : Int), .int .i64 0, .int .i64 0, .string ⟨#[]⟩])
  | 2 => .prog [moveI (n : Int) 0]
  | 3 => .val (.slice (some ⟨g, 0, none⟩) 2 2)
  | 4 => .val (.pointer (some ⟨g, 0, none⟩))
  | 5 => .val (.int .i64 (rn c : Int))
  | 6 => .prog (cleanL (rn c))
  | 7 => .val vc
  | 8 => .pcs [[moveI (n : Int) 0], cleanL (rn c), c]
  | 9 => .prog (moveI (n : Int) 0 :: behind c)
  | _ => .prog (moveI (n : Int) 0 :: behind c)
def whileS (j : Nat) : Nat := if j = 10 then 9 else j + 25
theorem whileS_ne (i j : Nat) (h : i ≠ j) : whileS i ≠ whileS j := by unfold whileS; (repeat' split) <;> omega
set_option maxHeartbeats 6400000 in
set_option maxRecDepth 100000 in
theorem While_any (w : World) (vc vp : Value) (c p : List Ins) (hc : ArgP w vc c) (hp : ArgP w vp p) (sc : SizeP c) (sp : SizeP p) :
    Calls Try.prog 24 #[vc, vp] w (BPost w (dueP [c, p] (whileL c p)) (whileL c p)) := by
  have HR := Lib.hid (bregs_any _ w.heap.size 0 2 [c, p] (lit_pieces w [vc, vp] [c, p] ⟨hc, hp, trivial⟩) (by simp) (by
    intro x hx
    simp only [List.mem_cons, List.not_mem_nil, or_false] at hx
    rcases hx with rfl | rfl
    · exact sc
    · exact sp))
  have HC := Lib.hid (fun W (h : Below w.heap.size w W) => hc.below h)
  have HP := Lib.hid (fun W (h : Below w.heap.size w W) => hp.below h)
  obtain ⟨ac, cc, rfl⟩ := hc.form
  obtain ⟨ap, cp, rfl⟩ := hp.form
  have hb0 := Lib.hid (alloc_below w (.cells #[.slice ac c.length cc, .slice ap p.length cp] 23))
  clear hc hp sc sp
  go_enter Try.func24, Try.ntmps24
  go_wp2_with fail
  refine HR.out.mono ?_
  rintro e w1 ⟨h1, hR⟩
  have hb1 := Lib.hid (bstep hb0.out h1)
  clear HR h1
  rcases hR with ⟨rfl, hx⟩ | ⟨hv, ⟨rfl, hx⟩ | ⟨h28, g, rfl, hN⟩⟩
  · have HX := Lib.hid (due_form (cs := whileL c p) hx)
    clear hx
    go_wp2_with fail
    go_ret2
    rw [HX.out]
    exact ⟨hb1.out, .inr ⟨by omega, rfl⟩⟩
  · have HX := Lib.hid (due_regs (cs := whileL c p) hv hx)
    clear hx hv
    go_wp2_with fail
    go_ret2
    rw [HX.out]
    exact ⟨hb1.out, .inr ⟨by omega, rfl⟩⟩
  · have c28 := h28 c (by simp); have p28 := h28 p (by simp)
    have cv := hv c (by simp); have pv := hv p (by simp)
    have HF := Lib.hid (fun w' e h => fits_is (w := w) (w' := w') (e := e) (allR_while cv pv c28 p28) hv h28 h)
    have HTR := Lib.hid (allR_tree (allR_while cv pv c28 p28))
    have HM := Lib.hid (fun W (h : NumsAt W g 0 [rn c, rn p]) => Max_any W g 0 2 [rn c, rn p] h (by simp) (by simp) (by simp; omega))
    rw [max2] at HM
    have HIF := Lib.hid (fun (n y l : Nat) => whileL_is (n := n) (y := y) (l := l) c p)
    have hl2 := cv.1; have hl3 := pv.1
    have HLEN := Lib.hid (whileL_len c p)
    have HBC := Lib.hid (behind_len c); have HBP := Lib.hid (behind_len p)
    generalize hn : max (rn c) (rn p) = n at *
    have hn28 : n ≤ 28 := by omega
    have hni : (n : Int) ≤ 28 := by omega
    have HNA := Lib.hid (show NumsAt w1 g 0 [rn c, rn p] from hN)
    have HA1 := Lib.hid (fun W => cleaning_any (rn c) (by omega) W)
    have HA2 := Lib.hid (fun W => again_any (n : Int) (rn p) (by omega) W)
    clear hv h28 hN hn cv pv
    go_wp2_with fail
    refine (HM.out _ HNA.out).mono ?_
    rintro e w2 ⟨rfl, h2⟩
    have hb2 := Lib.hid (bstep hb1.out h2)
    have HNA2 := Lib.hid (HNA.out.below h2)
    clear h2
    go_wp2_with fail
    have HT : Hid (([[moveI (n : Int) 0], cleanL (rn c), c] : List (List Ins)).flatten = moveI (n : Int) 0 :: behind c) := Lib.hid (by simp [behind])
    refine wp_region_inv (P := Try.prog) (fun listed a' w' => ∃ v : Nat → Value, a' = { tmps := #[.slice ac c.length cc, .slice ap p.length cp, undef, undef, .slice none 0 0, .int .i64 0, .slice (some ⟨g, 0, none⟩) 2 2, .int .i64 0, .int .i64 (n : Int), v 9, undef, undef, undef, .tuple #[.slice (some ⟨g, 0, none⟩) 2 2, .int .i64 0], .slice ac c.length cc, .slice ap p.length cp, .slice (some ⟨w.heap.size, 0, none⟩) 2 2, .tuple #[.slice (some ⟨g, 0, none⟩) 2 2, .int .i64 0], .slice (some ⟨g, 0, none⟩) 2 2, .int .i64 0, .int .i64 0, .bool false, undef, .slice (some ⟨g, 0, none⟩) 2 2, .int .i64 (n : Int), v 25, v 26, v 27, v 28, v 29, v 30, v 31, v 32, v 33, v 34, undef, undef, undef, undef, undef, undef, undef, undef, undef, undef, undef, undef, undef, undef, undef, undef, undef, undef, undef, undef, undef, undef, undef, undef, undef, undef, undef, undef, undef, undef, undef, undef, undef, undef, undef, undef, undef, undef, undef, undef, undef, undef], defers := [] } ∧ Below w2.heap.size w2 w' ∧
      ∀ j, listed.getD j false = true → (whileK n g c (.slice ac c.length cc) j).ok w' (v (whileS j))) (by kernel_rfl) ?start ?step ?done
    case start =>
      refine ⟨fun k => undef, rfl, (Below.refl _ _).drew, fun j hj => (start_none hj).elim⟩
    case step =>
      rintro listed a' w' i hs ⟨v, rfl, hb, hG⟩ hi
      have cell0 : w'.cell? ⟨g, 0, none⟩ = some (.int .i64 (rn c : Int)) := (HNA2.out.below hb).2 0 (rn c) rfl
      have hlt : i = 0 ∨ i = 1 ∨ i = 2 ∨ i = 3 ∨ i = 4 ∨ i = 5 ∨ i = 6 ∨ i = 7 ∨ i = 8 ∨ i = 9 ∨ i = 10 := by
        obtain ⟨_, o, ho, _⟩ := mem_ready.1 hi
        have := (Array.getElem?_eq_some_iff.1 ho).1
        simp at this; omega
      rcases hlt with rfl | rfl | rfl | rfl | rfl | rfl | rfl | rfl | rfl | rfl | rfl
      · refine wpOp_step rfl (fun K' hK => ?_)
        go_simp
        exact hK _ _ ⟨fun k => if k = 25 then ((.int .i64 (n : Int))) else v k, rfl, hb, RK.step (K := whileK n g c (.slice ac c.length cc)) whileS_ne (i := 0) (s := 25) rfl (Below.refl _ _) hG rfl⟩
      · have d0 : v 25 = (.int .i64 (n : Int)) := hG 0 (rdep hi rfl ⟨0, .data⟩ (by simp) rfl)
        refine wpOp_step rfl (fun K' hK => ?_)
        go_simp
        refine (bmove_is _ _ _).mono ?_
        rintro e w4 ⟨rfl, h4⟩
        exact hK _ _ ⟨fun k => if k = 26 then ((.agg #[.int .i64 1, .int .i64 (n : Int), .int .i64 0, .int .i64 0, .string ⟨#[]⟩])) else v k, by simp [d0], hb.trans (h4.mono hb.size), RK.step (K := whileK n g c (.slice ac c.length cc)) whileS_ne (i := 1) (s := 26) rfl h4 hG rfl⟩
      · have d1 : v 26 = (.agg #[.int .i64 1, .int .i64 (n : Int), .int .i64 0, .int .i64 0, .string ⟨#[]⟩]) := hG 1 (rdep hi rfl ⟨1, .data⟩ (by simp) rfl)
        refine wpOp_step rfl (fun K' hK => ?_)
        go_simp
        exact hK _ _ ⟨fun k => if k = 27 then (.slice (some ⟨w'.heap.size, 0, none⟩) 1 1) else v k, by simp [d1], hb.alloc hb.size _, RK.step (K := whileK n g c (.slice ac c.length cc)) whileS_ne (i := 2) (s := 27) rfl (alloc_below _ _) hG (one_prog w' (moveI (n : Int) 0))⟩
      · refine wpOp_step rfl (fun K' hK => ?_)
        go_simp
        exact hK _ _ ⟨fun k => if k = 28 then ((.slice (some ⟨g, 0, none⟩) 2 2)) else v k, rfl, hb, RK.step (K := whileK n g c (.slice ac c.length cc)) whileS_ne (i := 3) (s := 28) rfl (Below.refl _ _) hG rfl⟩
      · have d3 : v 28 = (.slice (some ⟨g, 0, none⟩) 2 2) := hG 3 (rdep hi rfl ⟨3, .data⟩ (by simp) rfl)
        refine wpOp_step rfl (fun K' hK => ?_)
        go_simp
        exact hK _ _ ⟨fun k => if k = 29 then ((.pointer (some ⟨g, 0, none⟩))) else v k, by simp [d3], hb, RK.step (K := whileK n g c (.slice ac c.length cc)) whileS_ne (i := 4) (s := 29) rfl (Below.refl _ _) hG rfl⟩
      · have d4 : v 29 = (.pointer (some ⟨g, 0, none⟩)) := hG 4 (rdep hi rfl ⟨4, .data⟩ (by simp) rfl)
        refine wpOp_step rfl (fun K' hK => ?_)
        go_simp
        exact hK _ _ ⟨fun k => if k = 30 then ((.int .i64 (rn c : Int))) else v k, by simp [d4], hb, RK.step (K := whileK n g c (.slice ac c.length cc)) whileS_ne (i := 5) (s := 30) rfl (Below.refl _ _) hG rfl⟩
      · have d5 : v 30 = (.int .i64 (rn c : Int)) := hG 5 (rdep hi rfl ⟨5, .data⟩ (by simp) rfl)
        refine wpOp_step rfl (fun K' hK => ?_)
        go_simp
        refine (HA1.out _).mono ?_
        rintro e w4 ⟨v10, rfl, ho10, h4⟩
        obtain ⟨a10, d10, e10⟩ := ho10.arg.form
        exact hK _ _ ⟨fun k => if k = 31 then (v10) else v k, by simp [d5], hb.trans (h4.mono hb.size), RK.step (K := whileK n g c (.slice ac c.length cc)) whileS_ne (i := 6) (s := 31) rfl h4 hG ⟨a10, d10, e10, e10 ▸ ho10.arg⟩⟩
      · refine wpOp_step rfl (fun K' hK => ?_)
        go_simp
        exact hK _ _ ⟨fun k => if k = 32 then (.slice ac c.length cc) else v k, rfl, hb, RK.step (K := whileK n g c (.slice ac c.length cc)) whileS_ne (i := 7) (s := 32) rfl (Below.refl _ _) hG rfl⟩
      · obtain ⟨x2, c2, d2, A2⟩ : ∃ a cx, v 27 = .slice a ([moveI (n : Int) 0] : List Ins).length cx ∧ ArgP w' (.slice a ([moveI (n : Int) 0] : List Ins).length cx) ([moveI (n : Int) 0]) := hG 2 (rdep hi rfl ⟨2, .data⟩ (by simp) rfl)
        obtain ⟨x6, c6, d6, A6⟩ : ∃ a cx, v 31 = .slice a ((cleanL (rn c)) : List Ins).length cx ∧ ArgP w' (.slice a ((cleanL (rn c)) : List Ins).length cx) ((cleanL (rn c))) := hG 6 (rdep hi rfl ⟨6, .data⟩ (by simp) rfl)
        have d7 : v 32 = .slice ac c.length cc := hG 7 (rdep hi rfl ⟨7, .data⟩ (by simp) rfl)
        refine wpOp_step rfl (fun K' hK => ?_)
        go_simp
        have hpc := lit_pieces w' [.slice x2 1 c2, .slice x6 (cleanL (rn c)).length c6, .slice ac c.length cc] [[moveI (n : Int) 0], cleanL (rn c), c] ⟨A2, A6, HC.out _ (bstep hb2.out hb), trivial⟩
        exact hK _ _ ⟨fun k => if k = 33 then (.slice (some ⟨w'.heap.size, 0, none⟩) 3 3) else v k, by simp [d2, d6, d7], hb.alloc hb.size _, RK.step (K := whileK n g c (.slice ac c.length cc)) whileS_ne (i := 8) (s := 33) rfl (alloc_below _ _) hG ⟨_, rfl, hpc⟩⟩
      · obtain ⟨x8, d8, A8⟩ : ∃ b, v 33 = .slice (some ⟨b, 0, none⟩) ([[moveI (n : Int) 0], cleanL (rn c), c] : List (List Ins)).length ([[moveI (n : Int) 0], cleanL (rn c), c] : List (List Ins)).length ∧ PiecesAt w' b 0 ([[moveI (n : Int) 0], cleanL (rn c), c]) := hG 8 (rdep hi rfl ⟨8, .data⟩ (by simp) rfl)
        refine wpOp_step rfl (fun K' hK => ?_)
        go_simp
        refine (Concat_any _ x8 0 3 _ A8 (by simp) (by rw [HT.out, List.length_cons, HBC.out]; omega)).mono ?_
        rintro e w4 ⟨v10, rfl, ho10, h4⟩
        rw [HT.out] at ho10
        obtain ⟨a10, d10, e10⟩ := (OwnP.arg (ps := moveI (n : Int) 0 :: behind c) ho10).form
        exact hK _ _ ⟨fun k => if k = 34 then (v10) else v k, by simp [d8], hb.trans (h4.mono hb.size), RK.step (K := whileK n g c (.slice ac c.length cc)) whileS_ne (i := 9) (s := 34) rfl h4 hG ⟨a10, d10, e10, e10 ▸ OwnP.arg (ps := moveI (n : Int) 0 :: behind c) ho10⟩⟩
      · obtain ⟨x9, c9, d9, A9⟩ : ∃ a cx, v 34 = .slice a ((moveI (n : Int) 0 :: behind c) : List Ins).length cx ∧ ArgP w' (.slice a ((moveI (n : Int) 0 :: behind c) : List Ins).length cx) ((moveI (n : Int) 0 :: behind c)) := hG 9 (rdep hi rfl ⟨9, .data⟩ (by simp) rfl)
        refine wpOp_step rfl (fun K' hK => ?_)
        go_simp
        exact hK _ _ ⟨fun k => if k = 9 then (v 34) else v k, by simp [d9], hb, RK.step (K := whileK n g c (.slice ac c.length cc)) whileS_ne (i := 10) (s := 9) rfl (Below.refl _ _) hG ⟨x9, c9, d9, A9⟩⟩
    case done =>
      rintro listed a' w' hs hr ⟨v, rfl, hb, hG⟩
      have h10 : ∃ a d, v 9 = .slice a (moveI (n : Int) 0 :: behind c).length d ∧ ArgP w' (.slice a (moveI (n : Int) 0 :: behind c).length d) (moveI (n : Int) 0 :: behind c) := hG 10 (all_listed hs (by kernel_rfl) hr 10 (by decide))
      obtain ⟨a9, d9, e9, A9⟩ := h10
      have HO9 := Lib.hid A9
      have hb3 := Lib.hid (bstep hb2.out hb)
      have HNA3 := Lib.hid (HNA2.out.below hb)
      have c1 : w'.cell? ⟨g, 1, none⟩ = some (.int .i64 (rn p : Int)) := HNA3.out.2 1 (rn p) rfl
      clear hG hs hr A9 hb
      rw [e9]
      generalize v 25 = y25 at *
      generalize v 26 = y26 at *
      generalize v 27 = y27 at *
      generalize v 28 = y28 at *
      generalize v 29 = y29 at *
      generalize v 30 = y30 at *
      generalize v 31 = y31 at *
      generalize v 32 = y32 at *
      generalize v 33 = y33 at *
      generalize v 34 = y34 at *
      clear e9
      go_wp2_with fail
      refine (HA2.out _).mono ?_
      rintro e w5 ⟨v5, rfl, ho5, h5⟩
      obtain ⟨a5, d5, rfl⟩ := ho5.arg.form
      have hb5 := Lib.hid (bstep hb3.out h5)
      have HO5 := Lib.hid ho5.arg
      have HO95 := Lib.hid (HO9.out.below h5)
      clear ho5 h5 c1
      go_wp2_with fail
      refine (bset_is _ _ _).mono ?_
      rintro e w6 ⟨rfl, h6⟩
      have A6 := Lib.hid (lit_prog w6 [setI n [49, 48, 48]] (by simp))
      have k6 := Lib.hid (h6.alloc h6.size (.cells (progV [setI n [49, 48, 48]]).toArray 39))
      have hb6 := Lib.hid (bstep hb5.out k6.out)
      have HL6 := Lib.hid (lit_piecesB (w := w6.alloc (.cells (progV [setI n [49, 48, 48]]).toArray 39)) (b := w6.heap.size + 1) (by simp) [.slice a5 (moveI 0 (n : Int) :: cleanL (rn p)).length d5, .slice ap p.length cp, .slice (some ⟨w6.heap.size, 0, none⟩) 1 1] [moveI 0 (n : Int) :: cleanL (rn p), p, [setI n [49, 48, 48]]] ⟨HO5.out.below k6.out, HP.out _ hb6.out, A6.out, trivial⟩)
      have k6a := Lib.hid (bstep k6.out (alloc_below _ (.cells #[.slice a5 (moveI 0 (n : Int) :: cleanL (rn p)).length d5, .slice ap p.length cp, .slice (some ⟨w6.heap.size, 0, none⟩) 1 1] 23)))
      have hb6a := Lib.hid (bstep hb5.out k6a.out)
      have HO96 := Lib.hid (HO95.out.below k6a.out)
      have HY : Hid (([moveI 0 (n : Int) :: cleanL (rn p), p, [setI n [49, 48, 48]]] : List (List Ins)).flatten = bodyL n p) := Lib.hid (by simp [bodyL, behind])
      have HC6 := Lib.hid (Concat_any _ _ 0 3 _ HL6.out (by simp) (by rw [HY.out, bodyL_len, HBP.out]; omega))
      rw [HY.out] at HC6
      clear h6
      go_wp2_with fail
      refine HC6.out.mono ?_
      rintro e w7 ⟨v7, rfl, ho7, h7⟩
      have ho7' : OwnP w7 _ v7 (bodyL n p) := ho7
      obtain ⟨a7, d7, rfl⟩ := ho7'.arg.form
      have HO7 := Lib.hid ho7'.arg
      have hb7 := Lib.hid (bstep hb6a.out h7)
      have HO97 := Lib.hid (HO96.out.below h7)
      clear ho7 ho7' h7
      have HYL : Hid ((bodyL n p).length ≤ 5000) := Lib.hid (by rw [bodyL_len, HBP.out]; omega)
      have hyl := HYL.out
      generalize hy : (bodyL n p).length = y at *
      have HYE := Lib.hid hy
      clear hy
      have hw1 : IntKind.i64.wrap ((y : Int) + 1) = (y : Int) + 1 := by rw [IntKind.wrap_i64]; omega
      have hyi : (y : Int) ≤ 5000 := by omega
      go_wp2_with fail
      refine (bmove_is _ _ _).mono ?_
      rintro e w8 ⟨rfl, h8⟩
      have A8 := Lib.hid (lit_prog w8 [moveI 0 (n : Int)] (by simp))
      have k8 := Lib.hid (h8.alloc h8.size (.cells (progV [moveI 0 (n : Int)]).toArray 39))
      have hb8 := Lib.hid (bstep hb7.out k8.out)
      have HO98 := Lib.hid (HO97.out.below k8.out)
      have HO78 := Lib.hid (HO7.out.below k8.out)
      clear h8
      go_wp2_with fail
      refine (skip_any (n : Int) ((y : Int) + 1) (by omega) _).mono ?_
      rintro e w9 ⟨v9, rfl, ho9, h9⟩
      obtain ⟨a9', d9', rfl⟩ := ho9.arg.form
      have hb9 := Lib.hid (bstep hb8.out h9)
      have HL9 := Lib.hid (lit_pieces w9 [.slice (some ⟨w8.heap.size, 0, none⟩) 1 1, .slice a9' 2 d9'] [[moveI 0 (n : Int)], [setI n [49, 48, 48], jumpI n (1 + ((y : Int) + 1))]] ⟨A8.out.below h9, ho9.arg, trivial⟩)
      have k9a := Lib.hid (bstep h9 (alloc_below w9 (.cells #[.slice (some ⟨w8.heap.size, 0, none⟩) 1 1, .slice a9' 2 d9'] 23)))
      have hb9a := Lib.hid (bstep hb8.out k9a.out)
      have HO99 := Lib.hid (HO98.out.below k9a.out)
      have HO79 := Lib.hid (HO78.out.below k9a.out)
      have HZ : Hid (([[moveI 0 (n : Int)], [setI n [49, 48, 48], jumpI n (1 + ((y : Int) + 1))]] : List (List Ins)).flatten = stopL n ((y : Int) + 1)) := Lib.hid (by simp [stopL])
      have HC9 := Lib.hid (Concat_any _ w9.heap.size 0 2 _ HL9.out (by simp) (by rw [HZ.out]; simp [stopL]))
      rw [HZ.out] at HC9
      clear ho9 h9
      go_wp2_with fail
      refine HC9.out.mono ?_
      rintro e w10 ⟨v10, rfl, ho10, h10⟩
      have ho10' : OwnP w10 _ v10 (stopL n ((y : Int) + 1)) := ho10
      obtain ⟨a10, d10, e10⟩ := ho10'.arg.form
      obtain rfl : v10 = .slice a10 3 d10 := e10
      have HO10 := Lib.hid ho10'.arg
      have hb10 := Lib.hid (bstep hb9a.out h10)
      have HO910 := Lib.hid (HO99.out.below h10)
      have HO710 := Lib.hid (HO79.out.below h10)
      clear ho10 ho10' h10
      go_wp2_with fail
      refine (bjump_is _ _ _).mono ?_
      rintro e w11 ⟨rfl, h11⟩
      have A11 := Lib.hid (lit_prog w11 [jumpI 0 4] (by simp))
      have k11 := Lib.hid (h11.alloc h11.size (.cells (progV [jumpI 0 4]).toArray 39))
      have hb11 := Lib.hid (bstep hb10.out k11.out)
      have HL11 := Lib.hid (lit_piecesB (w := w11.alloc (.cells (progV [jumpI 0 4]).toArray 39)) (b := w11.heap.size + 1) (by simp) [.slice a9 (moveI (n : Int) 0 :: behind c).length d9, .slice (some ⟨w11.heap.size, 0, none⟩) 1 1, .slice a10 3 d10, .slice a7 y d7] [moveI (n : Int) 0 :: behind c, [jumpI 0 4], stopL n ((y : Int) + 1), bodyL n p] ⟨HO910.out.below k11.out, A11.out, HO10.out.below k11.out, HO710.out.below k11.out, trivial⟩)
      have k11a := Lib.hid (bstep k11.out (alloc_below _ (.cells #[.slice a9 (moveI (n : Int) 0 :: behind c).length d9, .slice (some ⟨w11.heap.size, 0, none⟩) 1 1, .slice a10 3 d10, .slice a7 y d7] 23)))
      have hb11a := Lib.hid (bstep hb10.out k11a.out)
      have HZ2 : Hid (([moveI (n : Int) 0 :: behind c, [jumpI 0 4], stopL n ((y : Int) + 1), bodyL n p] : List (List Ins)).flatten = loopL n c p ((y : Int) + 1)) := Lib.hid (by simp [loopL])
      have HC11 := Lib.hid (Concat_any _ _ 0 4 _ HL11.out (by simp) (by rw [HZ2.out, loopL_len]; have := HBC.out; have := HBP.out; omega))
      rw [HZ2.out] at HC11
      clear h11
      go_wp2_with fail
      refine HC11.out.mono ?_
      rintro e w12 ⟨v12, rfl, ho12, h12⟩
      have ho12' : OwnP w12 _ v12 (loopL n c p ((y : Int) + 1)) := ho12
      obtain ⟨a12, d12, rfl⟩ := ho12'.arg.form
      have HO12 := Lib.hid ho12'.arg
      have hb12 := Lib.hid (bstep hb11a.out h12)
      clear ho12 ho12' h12
      have HLL : Hid ((loopL n c p ((y : Int) + 1)).length ≤ 10000) := Lib.hid (by rw [loopL_len]; have := HBC.out; have := HBP.out; omega)
      have hll := HLL.out
      generalize hl : (loopL n c p ((y : Int) + 1)).length = l at *
      have HLE := Lib.hid hl
      clear hl
      have hw2 : IntKind.i64.wrap (-(l : Int)) = -(l : Int) := by rw [IntKind.wrap_i64]; omega
      go_wp2_with fail
      refine (bjump_is _ _ _).mono ?_
      rintro e w13 ⟨rfl, h13⟩
      have A13 := Lib.hid (lit_prog w13 [jumpI (n : Int) (-(l : Int))] (by simp))
      have k13 := Lib.hid (h13.alloc h13.size (.cells (progV [jumpI (n : Int) (-(l : Int))]).toArray 39))
      have hb13 := Lib.hid (bstep hb12.out k13.out)
      have HL13 := Lib.hid (lit_piecesB (w := w13.alloc (.cells (progV [jumpI (n : Int) (-(l : Int))]).toArray 39)) (b := w13.heap.size + 1) (by simp) [.slice a12 l d12, .slice (some ⟨w13.heap.size, 0, none⟩) 1 1] [loopL n c p ((y : Int) + 1), [jumpI (n : Int) (-(l : Int))]] ⟨HO12.out.below k13.out, A13.out, trivial⟩)
      have hb13a := Lib.hid (hb13.out.alloc hb13.out.size (.cells #[.slice a12 l d12, .slice (some ⟨w13.heap.size, 0, none⟩) 1 1] 23))
      have HJ := Lib.hid (join_any _ _ 0 2 _ (whileL c p) (HIF.out n y l rfl HYE.out HLE.out) HL13.out (by simp) (by have := HLEN.out; have := HBC.out; have := HBP.out; omega) HTR.out)
      clear h13
      go_wp2_with fail
      refine HJ.out.mono ?_
      rintro e w14 ⟨h14, hJ⟩
      have HB := Lib.hid (HF.out w14 e ⟨bstep hb13a.out h14, hJ⟩)
      clear h14
      rcases hJ with ⟨_, v, rfl, hA⟩ | ⟨hn, rfl⟩
      · clear hA
        go_wp2_with fail
        go_ret2
        exact HB.out
      · clear hn
        go_wp2_with fail
        go_ret2
        exact HB.out
end Go.Proofs.Ytmhoacnbmbhcjab
