/- The law's awake: the examples of the chapter. By an AI agent. -/
import Derived.Test.YtmhoacnbmbhcjaaGreatDoorRunB
import Derived.Test.YtmhoacnbmbhcjaaGreatDoorPrg
import Derived.Laws.AppendOwnNone
import Derived.Lib.AppendZeros
import Derived.Test.YtmhoacnbmbhcjaaGreatDoorMth
import Derived.Outline
import Derived.Test.YtmhoacnbmbhcjaaGreatDoorRegionInv
namespace Go.Proofs.YtmhoacnbmbhcjaaGreatDoor
open Go.RowKit Pl

theorem add_at (g j : Nat) : (⟨g, 0, none⟩ : Addr).add j = ⟨g, j, none⟩ := by
  cases j with
  | zero => rfl
  | succ j => simp [Addr.add]
/-- a program that has just been written down -/
theorem lit_prog (w : World) (ps : List Ins) (h0 : 0 < ps.length) : ArgP (w.alloc (.cells (progV ps).toArray 64)) (.slice (some ⟨w.heap.size, 0, none⟩) ps.length ps.length) ps :=
  .inr ⟨h0, _, 0, _, rfl, progAt_of (by simp) fun j u hu => by
    rw [add_at, World.cell?_alloc_new]
    simpa using hu⟩
theorem S_list (l : List UInt8) : (S l).data.toList = l := by simp
end Go.Proofs.YtmhoacnbmbhcjaaGreatDoor

namespace Go.Proofs.YtmhoacnbmbhcjaaGreatDoor
open Go.RowKit Pl

theorem ArgP.form {w : World} {v : Value} {ps : List Ins} (h : ArgP w v ps) : ∃ a cap, v = .slice a ps.length cap := by
  rcases h with ⟨rfl, rfl | ⟨ad, cap, rfl⟩⟩ | ⟨_, b, off, cap, rfl, _⟩
  · exact ⟨_, _, rfl⟩
  · exact ⟨_, _, rfl⟩
  · exact ⟨_, _, rfl⟩
/-- programs one after the other in a slice's cells -/
structure PiecesAt (w : World) (b off : Nat) (pss : List (List Ins)) : Prop where
  lt : b < w.heap.size
  piece : ∀ k p, pss[k]? = some p → ∃ v, w.cell? ⟨b, off + k, none⟩ = some v ∧ ArgP w v p
theorem PiecesAt.below {w w1 : World} {b off : Nat} {pss : List (List Ins)} (h : PiecesAt w b off pss) (hb : Below w.heap.size w w1) : PiecesAt w1 b off pss :=
  ⟨Nat.lt_of_lt_of_le h.lt hb.size, fun k p hk => by
    obtain ⟨v, h1, h2⟩ := h.piece k p hk
    exact ⟨v, by rw [hb.cell (p := ⟨b, off + k, none⟩) h.lt]; exact h1, h2.below hb⟩⟩
def flatTo (pss : List (List Ins)) (k : Nat) : List Ins := (pss.take k).flatten
theorem flatTo_succ {pss : List (List Ins)} {k : Nat} {p : List Ins} (h : pss[k]? = some p) : flatTo pss (k + 1) = flatTo pss k ++ p := by
  obtain ⟨hk, rfl⟩ := List.getElem?_eq_some_iff.1 h
  unfold flatTo
  rw [List.take_succ_eq_append_getElem hk, List.flatten_append]; simp
theorem flatTo_all {pss : List (List Ins)} {k : Nat} (h : pss.length ≤ k) : flatTo pss k = pss.flatten := by unfold flatTo; rw [List.take_of_length_le h]
theorem flatTo_le (pss : List (List Ins)) (k : Nat) : (flatTo pss k).length ≤ pss.flatten.length := by
  have : pss.flatten = flatTo pss k ++ (pss.drop k).flatten := by
    unfold flatTo; rw [← List.flatten_append, List.take_append_drop]
  rw [this, List.length_append]; omega
theorem piece_at {pss : List (List Ins)} {k : Nat} (h : k < pss.length) : ∃ x, pss[k]? = some x := ⟨pss[k], List.getElem?_eq_getElem h⟩

/-- a program behind a row of one's own -/
theorem wpList_app_prog {w : World} {ops : Array Oper} {rest : List Oper} {o : Oper} {a : Act} {Q : Exit → Act → World → Prop} (hgd : o.guard = none) (s x : Operand)
    (ho : o.op = .call { callee := .builtin .append, args := #[s, x], argTypes := #[23, 23] })
    (base : Nat) (v : Value) (n : Nat) (xs : List Value) (hs : a.eval s = v) (hown : w.ownsRow base 64 5 v n xs) (u : Value) (hx : a.eval x = u) (ps : List Ins) (hA : ArgP w u ps)
    (hbytes : (n + ps.length) * 48 ≤ 140737488355328) (hbase : base ≤ w.heap.size)
    (h : ∀ v' w', w'.ownsRow base 64 5 v' (n + ps.length) (xs ++ progV ps) → w.grownBy w' v.ownBlock → wpList Tryz.prog ops Q rest (a.put o.dst v') w') :
    wpList Tryz.prog ops Q (o :: rest) a w := by
  obtain ⟨i0, hi, hz0, hz1, hz2⟩ := info_parts Tryz.infoIns
  have key : ∀ (ad : Addr) (cap : Nat), u = .slice (some ad) ps.length cap → (∀ j y, (progV ps)[j]? = some y → w.cell? (ad.add j) = some y) → wpList Tryz.prog ops Q (o :: rest) a w := by
    intro ad cap hu hc
    refine wpList_append_own w hgd s x 23 ho base 64 i0 (.agg #[.int .i64 0, .int .i64 0, .int .i64 0, .int .i64 0, .string ⟨#[]⟩]) 5 48 Tryz.underlying23 hi hz0 hz1 hz2 rfl (by decide) v n xs hs hown ad ps.length cap (progV ps) (hx.trans hu) (progV_len ps) hc (progV_oneCell ps) (by unfold maxLen; omega) (by omega) hbase ?_
    intro v' w' h1 h2 _
    exact h v' w' h1 h2
  rcases hA with ⟨rfl, rfl | ⟨ad, cap, rfl⟩⟩ | ⟨_, b, off, cap, rfl, hc⟩
  · refine wpList_append_own_none hgd s x 23 ho base 64 i0 5 Tryz.underlying23 hi v n xs hs hown hx ?_
    refine h v w ?_ ⟨rfl, rfl, rfl, Nat.le_refl _, fun _ _ _ => rfl⟩
    simpa [progV] using hown
  · exact key ad cap rfl (fun j y hy => by simp [progV] at hy)
  · exact key ⟨b, off, none⟩ cap rfl hc.cell

set_option maxHeartbeats 800000 in
set_option maxRecDepth 100000 in
theorem Grow_nil (w : World) (n : Nat) (hn : n * 48 ≤ 140737488355328) :
    Calls Tryz.prog 169 #[.slice none 0 0, .int .i64 n] w fun e w' => ∃ v, e = .returned v ∧ w'.ownsRow w.heap.size 64 5 v 0 [] ∧ Below w.heap.size w w' := by
  obtain ⟨i0, hi, hz0, hz1, hz2⟩ := info_parts Tryz.infoIns
  rcases Nat.eq_zero_or_pos n with rfl | h0
  · clear hi hz0 hz1 hz2 hn
    go_enter Tryz.func169, Tryz.ntmps169
    go_wp2
    go_ret
    exact ⟨_, rfl, World.ownsRow_nil _ _ _ _, Below.refl _ _⟩
  · have h1 : ¬ ((n : Int) < 0) := by omega
    have h4 : (0 : Int) < (n : Int) := by omega
    have hr := fun ty => Lib.run_append_nil_zeros (P := Tryz.prog) w 23 3 ty 64 i0 (.agg #[.int .i64 0, .int .i64 0, .int .i64 0, .int .i64 0, .string ⟨#[]⟩]) .i64 .i64 Tryz.underlying23 Tryz.underlying3 hi hz0 n h0 (by omega) (by omega) (by rw [hz2]; omega)
    have hG := grownCap_ge w n 0 64
    have hGm := grownCap_le_maxLen w n 0 64 (by unfold maxLen; omega)
    generalize grownCap w n 0 64 = G at *
    have HR := Lib.hid hr
    have hGs : G ≤ 9223372036854775807 := by unfold maxLen at hGm; omega
    have hsz : (Builtin.zeroCells (Value.agg #[.int .i64 0, .int .i64 0, .int .i64 0, .int .i64 0, .string ⟨#[]⟩]).cells n ++ Builtin.zeroCells (Value.agg #[.int .i64 0, .int .i64 0, .int .i64 0, .int .i64 0, .string ⟨#[]⟩]).cells (G - n)).size = G * 5 := by
      rw [Array.size_append, size_zeroCells, size_zeroCells]
      show n * 5 + (G - n) * 5 = G * 5
      omega
    generalize hcur : (Builtin.zeroCells (Value.agg #[.int .i64 0, .int .i64 0, .int .i64 0, .int .i64 0, .string ⟨#[]⟩]).cells n ++ Builtin.zeroCells (Value.agg #[.int .i64 0, .int .i64 0, .int .i64 0, .int .i64 0, .string ⟨#[]⟩]).cells (G - n)) = cur at *
    have HO := Lib.hid (World.ownsRow_made (base := w.heap.size) (e := 64) (size := 5) w.drew cur G (Nat.le_refl _) hGm hsz)
    have HB : Below w.heap.size w (w.drew.alloc (.cells cur 64)) := (Below.refl _ _).drew.alloc (Nat.le_refl _) _
    have HB := Lib.hid HB
    clear hr hi hz0 hz1 hz2 hn hsz hcur hGm
    go_enter Tryz.func169, Tryz.ntmps169
    go_wp2_with (at_builtin; refine Lib.wpList_append_run _ rfl _ _ _ _ rfl _ _ rfl rfl _ _ (HR.out _) ?_)
    go_ret
    exact ⟨_, rfl, HO.out, HB.out⟩
set_option maxHeartbeats 1600000 in
set_option maxRecDepth 100000 in
theorem Concat_any (w : World) (b off cap : Nat) (pss : List (List Ins)) (hc : PiecesAt w b off pss) (hm : pss.length ≤ 281474976710656) (hz : pss.flatten.length * 48 ≤ 140737488355328) :
    Calls Tryz.prog 122 #[.slice (some ⟨b, off, none⟩) pss.length cap] w fun e w' => ∃ v, e = .returned v ∧ w'.ownsRow w.heap.size 64 5 v pss.flatten.length (progV pss.flatten) ∧ Below w.heap.size w w' := by
  generalize hnn : pss.length = n at *
  generalize htt : pss.flatten.length = T at *
  have HN := Lib.hid hnn; have HC := Lib.hid hc; have HLE := Lib.hid (flatTo_le pss); have HT := Lib.hid htt
  have HG := Lib.hid (fun W => Grow_nil W T hz)
  have hT : T ≤ 281474976710656 := by omega
  have HZ := Lib.hid hz
  clear hnn hc htt hz
  go_enter Tryz.func122, Tryz.ntmps122
  go_wp2
  go_loop [3, 11] (fun t i => ∃ k : Nat, k ≤ n ∧ i = .int .i64 k ∧ ∃ s : Nat, t = .int .i64 s ∧ s ≤ T ∧ Hid ((flatTo pss k).length = s)) (fun _ i => n - (intOf i).toNat)
  case atStart => exact ⟨0, Nat.zero_le _, rfl, 0, rfl, Nat.zero_le _, Lib.hid (by simp [flatTo])⟩
  case round =>
    obtain ⟨k, hk, rfl, s, rfl, hs, hfs⟩ := hrel
    by_cases hlt : k < n
    · obtain ⟨p, hp⟩ := piece_at (pss := pss) (k := k) (by rw [HN.out]; exact hlt)
      obtain ⟨u, hcell, hA⟩ := HC.out.piece k p hp
      obtain ⟨pa, pcap, rfl⟩ := hA.form
      have hs2 : s + p.length ≤ T := by
        have h1 := HLE.out (k + 1)
        rw [flatTo_succ hp, List.length_append, hfs.out] at h1
        have := HT.out
        omega
      have HF : Hid ((flatTo pss (k + 1)).length = s + p.length) := Lib.hid (by rw [flatTo_succ hp, List.length_append, hfs.out])
      clear hp hA
      generalize p.length = q at *
      have h3 : ¬ ((s : Int) + (q : Int) < 0) := by omega
      go_wp2
      go_round
      case rel => exact ⟨k + 1, by omega, by go_num, s + q, by go_num, by omega, HF⟩
      case measure => simp [intOf]; omega
    · obtain rfl : k = n := by omega
      have HS : Hid (s = T) := Lib.hid (by rw [← hfs.out, flatTo_all (by rw [HN.out]; exact Nat.le_refl _)]; exact HT.out)
      obtain rfl := HS.out
      go_wp2_with fail
      refine (HG.out _).mono ?_
      rintro e w1 ⟨v1, rfl, ho1, hb1⟩
      have HO1 := Lib.hid ho1
      clear ho1
      go_wp2_with fail
      go_loopw [6, 27] (fun v i wr => ∃ j : Nat, j ≤ k ∧ i = .int .i64 j ∧ Hid (wr.ownsRow w.heap.size 64 5 v (flatTo pss j).length (progV (flatTo pss j))) ∧ Below w.heap.size w wr) (fun _ i _ => k - (intOf i).toNat)
      case atStart => exact ⟨0, Nat.zero_le _, rfl, HO1, hb1⟩
      case round =>
        clear HO1 hb1
        obtain ⟨j, hj, rfl, HO, hb⟩ := hrel
        have hsz := hb.size
        by_cases hjl : j < k
        · obtain ⟨p, hp⟩ := piece_at (pss := pss) (k := j) (by rw [HN.out]; exact hjl)
          obtain ⟨u, hcell, hA⟩ := (HC.out.below hb).piece j p hp
          have HA := Lib.hid hA
          have hs2 : (flatTo pss j).length + p.length ≤ s := by
            have h1 := HLE.out (j + 1)
            rw [flatTo_succ hp, List.length_append] at h1
            have := HT.out
            omega
          have HF := Lib.hid (flatTo_succ hp)
          have hjk : (j : Int) < (k : Int) := by omega
          clear hp hA
          go_wp2_with (at_builtin; refine wpList_app_prog rfl _ _ rfl w.heap.size _ (flatTo pss j).length (progV (flatTo pss j)) rfl HO.out _ rfl p HA.out (by have := HZ.out; omega) hsz ?_; intro v' w' hown hgrow)
          have HB : Below w.heap.size w w' := hb.grown hgrow hsz (fun g h => (HO.out.lt g h).1)
          rw [← progV_app, ← List.length_append, ← HF.out] at hown
          have HW := Lib.hid hown
          clear hown hgrow hb HO
          go_wp2_with fail
          go_roundw
          case rel => exact ⟨j + 1, by omega, by go_num, HW, HB⟩
          case measure => simp [intOf]; omega
        · obtain rfl : j = k := by omega
          have HF : Hid (flatTo pss j = pss.flatten) := Lib.hid (flatTo_all (by rw [HN.out]; exact Nat.le_refl _))
          rw [HF.out, HT.out] at HO
          go_wp2_with fail
          go_ret
          exact ⟨_, rfl, HO.out, hb⟩
/-- the greatest number -/
def maxL (l : List Nat) : Nat := l.foldl max 0
def NumsAt (w : World) (b off : Nat) (l : List Nat) : Prop := b < w.heap.size ∧ ∀ (k x : Nat), l[k]? = some x → w.cell? ⟨b, off + k, none⟩ = some (.int .i64 (x : Int))
theorem NumsAt.below {w w1 : World} {b off : Nat} {l : List Nat} (h : NumsAt w b off l) (hb : Below w.heap.size w w1) : NumsAt w1 b off l :=
  ⟨Nat.lt_of_lt_of_le h.1 hb.size, fun k x hk => by rw [hb.cell (p := ⟨b, off + k, none⟩) h.1]; exact h.2 k x hk⟩
def maxTo (l : List Nat) (k : Nat) : Nat := (l.take k).foldl max 0
theorem maxTo_succ {l : List Nat} {k x : Nat} (h : l[k]? = some x) : maxTo l (k + 1) = max (maxTo l k) x := by
  obtain ⟨hk, rfl⟩ := List.getElem?_eq_some_iff.1 h
  unfold maxTo
  rw [List.take_succ_eq_append_getElem hk, List.foldl_append]; rfl
end Go.Proofs.YtmhoacnbmbhcjaaGreatDoor

namespace Go.Proofs.YtmhoacnbmbhcjaaGreatDoor
open Go.RowKit Pl

/-- a program in memory of one's own -/
def OwnP (w : World) (B : Nat) (v : Value) (ps : List Ins) : Prop := w.ownsRow B 64 5 v ps.length (progV ps)
theorem OwnP.arg {w : World} {B : Nat} {v : Value} {ps : List Ins} (h : OwnP w B v ps) : ArgP w v ps := (own_prog h).2.1
theorem OwnP.below {w w1 : World} {B : Nat} {v : Value} {ps : List Ins} (h : OwnP w B v ps) (hb : Below w.heap.size w w1) : OwnP w1 B v ps := own_below h hb
def ArgsP (w : World) : List Value → List (List Ins) → Prop
  | [], [] => True
  | v :: vs, p :: ps => ArgP w v p ∧ ArgsP w vs ps
  | _, _ => False
theorem ArgsP.get {w : World} : ∀ {vs : List Value} {pss : List (List Ins)}, ArgsP w vs pss → ∀ (k : Nat) (p : List Ins), pss[k]? = some p → ∃ v, vs[k]? = some v ∧ ArgP w v p
  | [], [], _, k, p, hp => by simp at hp
  | v :: vs, q :: ps, h, k, p, hp => by
    cases k with
    | zero => simp at hp; subst hp; exact ⟨v, rfl, h.1⟩
    | succ k => exact ArgsP.get h.2 k p (by simpa using hp)
theorem ArgsP.below {w w1 : World} (hb : Below w.heap.size w w1) : ∀ {vs : List Value} {pss : List (List Ins)}, ArgsP w vs pss → ArgsP w1 vs pss
  | [], [], _ => trivial
  | _ :: _, _ :: _, h => ⟨h.1.below hb, ArgsP.below hb h.2⟩
theorem alloc_below (w : World) (o : Obj) : Below w.heap.size w (w.alloc o) := (Below.refl _ _).alloc (Nat.le_refl _) o
/-- pieces that have just been written down -/
theorem lit_pieces (w : World) (vs : List Value) (pss : List (List Ins)) (h : ArgsP w vs pss) : PiecesAt (w.alloc (.cells vs.toArray 23)) w.heap.size 0 pss :=
  ⟨by simp, fun k p hk => by
    obtain ⟨v, h1, h2⟩ := h.get k p hk
    refine ⟨v, ?_, h2.below (alloc_below _ _)⟩
    rw [World.cell?_alloc_new]
    simpa using h1⟩

set_option maxHeartbeats 800000 in
set_option maxRecDepth 100000 in
theorem bset_is (a : Int) (s : ByteArray) (w : World) : Calls Tryz.prog 77 #[.int .i64 a, .string s] w fun e w' => e = .returned (.agg #[.int .i64 0, .int .i64 a, .int .i64 0, .int .i64 0, .string s]) ∧ Below w.heap.size w w' := by
  go_enter Tryz.func77, Tryz.ntmps77
  go_wp2
  exact bodyPost_ret (v := .agg #[.int .i64 0, .int .i64 a, .int .i64 0, .int .i64 0, .string s]) (by simp [results, Tryz.f77, go_sem]) rfl ⟨rfl, alloc_below _ _⟩
set_option maxHeartbeats 800000 in
set_option maxRecDepth 100000 in
theorem bmove_is (a b : Int) (w : World) : Calls Tryz.prog 214 #[.int .i64 a, .int .i64 b] w fun e w' => e = .returned (.agg #[.int .i64 1, .int .i64 a, .int .i64 b, .int .i64 0, .string ⟨#[]⟩]) ∧ Below w.heap.size w w' := by
  go_enter Tryz.func214, Tryz.ntmps214
  go_wp2
  exact bodyPost_ret (v := .agg #[.int .i64 1, .int .i64 a, .int .i64 b, .int .i64 0, .string ⟨#[]⟩]) (by simp [results, Tryz.f214, go_sem]) rfl ⟨rfl, alloc_below _ _⟩
set_option maxHeartbeats 800000 in
set_option maxRecDepth 100000 in
theorem bjump_is (a b : Int) (w : World) : Calls Tryz.prog 213 #[.int .i64 a, .int .i64 b] w fun e w' => e = .returned (.agg #[.int .i64 5, .int .i64 a, .int .i64 b, .int .i64 0, .string ⟨#[]⟩]) ∧ Below w.heap.size w w' := by
  go_enter Tryz.func213, Tryz.ntmps213
  go_wp2
  exact bodyPost_ret (v := .agg #[.int .i64 5, .int .i64 a, .int .i64 b, .int .i64 0, .string ⟨#[]⟩]) (by simp [results, Tryz.f213, go_sem]) rfl ⟨rfl, alloc_below _ _⟩
set_option maxHeartbeats 800000 in
set_option maxRecDepth 100000 in
theorem bcons_is (a b c : Int) (w : World) : Calls Tryz.prog 76 #[.int .i64 a, .int .i64 b, .int .i64 c] w fun e w' => e = .returned (.agg #[.int .i64 2, .int .i64 a, .int .i64 b, .int .i64 c, .string ⟨#[]⟩]) ∧ Below w.heap.size w w' := by
  go_enter Tryz.func76, Tryz.ntmps76
  go_wp2
  exact bodyPost_ret (v := .agg #[.int .i64 2, .int .i64 a, .int .i64 b, .int .i64 c, .string ⟨#[]⟩]) (by simp [results, Tryz.f76, go_sem]) rfl ⟨rfl, alloc_below _ _⟩
theorem own_nilP (w : World) (B : Nat) : OwnP w B (.slice none 0 0) [] := World.ownsRow_nil _ _ _ _
def cleanTo (k : Nat) : List Ins := cleanL (k + 1)
theorem cleanTo_succ (k : Nat) : cleanTo (k + 1) = cleanTo k ++ [setI ((k : Int) + 1) [48]] := by
  unfold cleanTo cleanL
  rw [Nat.add_sub_cancel, Nat.add_sub_cancel, List.range_succ, List.map_append]; rfl
theorem cleanTo_len (k : Nat) : (cleanTo k).length = k := by unfold cleanTo; rw [cleanL_len]; omega
def clearL (a n : Nat) : List Ins := (List.range n).map fun (i : Nat) => setI ((a : Int) + (i : Int)) [48]
theorem clearL_succ (a k : Nat) : clearL a (k + 1) = clearL a k ++ [setI ((a : Int) + (k : Int)) [48]] := by
  unfold clearL
  rw [List.range_succ, List.map_append]; rfl
theorem clearL_len (a n : Nat) : (clearL a n).length = n := by simp [clearL]
theorem clearL_one (m : Nat) : clearL 1 (m - 1) = cleanL m := by
  unfold clearL cleanL
  exact List.map_congr_left fun i _ => by rw [Int.add_comm]; rfl
set_option maxHeartbeats 1600000 in
set_option maxRecDepth 100000 in
theorem Clear_any (a n : Nat) (l : Int) (hn : (l + 1 - (a : Int)).toNat = n) (ha : a ≤ 40) (hl : -40 ≤ l) (hl2 : l ≤ 40) (w : World) : Calls Tryz.prog 75 #[.int .i64 (a : Int), .int .i64 l] w fun e w' => ∃ v, e = .returned v ∧ OwnP w' w.heap.size v (clearL a n) ∧ Below w.heap.size w w' := by
  have HNL := Lib.hid hn
  have hn41 : n ≤ 81 := by omega
  go_enter Tryz.func75, Tryz.ntmps75
  go_wp2
  go_loopw [5, 6] (fun v i wr => ∃ k : Nat, k ≤ n ∧ i = .int .i64 ((a : Int) + (k : Int)) ∧ Hid (OwnP wr w.heap.size v (clearL a k)) ∧ Below w.heap.size w wr) (fun _ i _ => (l + 1 - intOf i).toNat)
  case atStart => exact ⟨0, Nat.zero_le _, by simp, Lib.hid (own_nilP _ _), Below.refl _ _⟩
  case round =>
    obtain ⟨k, hk, rfl, HO, hb⟩ := hrel
    have hsz := hb.size
    by_cases hlt : k < n
    · have hlt' : (a : Int) + (k : Int) ≤ l := by have := HNL.out; omega
      have HL := Lib.hid (clearL_succ a k)
      have HN := clearL_len a k
      go_wp2_with fail
      refine (bset_is _ _ _).mono ?_
      rintro e w1 ⟨rfl, h1⟩
      have hb1 := hb.trans (h1.mono hsz)
      have hsz1 := hb1.size
      have HO1 := Lib.hid (HO.out.below h1)
      clear h1 hb HO
      go_wp2_with (at_builtin; refine wpList_app_prog rfl _ _ rfl w.heap.size _ (clearL a k).length (progV (clearL a k)) rfl (HO1.out.alloc _) _ rfl [setI ((a : Int) + (k : Int)) [48]] (lit_prog _ [setI ((a : Int) + (k : Int)) [48]] (by simp)) (by rw [HN]; simp; omega) (by simp; omega) ?_; intro v' w' hown hgrow)
      have hb2 : Below w.heap.size w w' := (hb1.alloc hsz1 _).grown hgrow (by simp; omega) (fun g h => ((HO1.out.alloc (.cells (progV [setI ((a : Int) + (k : Int)) [48]]).toArray 64)).lt g h).1)
      have HO2 : Hid (OwnP w' w.heap.size v' (clearL a (k + 1))) := Lib.hid (by
        unfold OwnP; rw [HL.out, progV_app, List.length_append]; exact hown)
      clear hown hgrow hb1 HO1
      go_wp2_with fail
      go_roundw
      case rel => exact ⟨k + 1, by omega, by go_num, HO2, hb2⟩
      case measure => simp [intOf]; omega
    · obtain rfl : k = n := by omega
      have hlt' : ¬ ((a : Int) + (k : Int) ≤ l) := by have := HNL.out; omega
      go_wp2_with fail
      go_ret
      exact ⟨_, rfl, HO.out, hb⟩
end Go.Proofs.YtmhoacnbmbhcjaaGreatDoor

namespace Go.Proofs.YtmhoacnbmbhcjaaGreatDoor
open Go.RowKit Pl

theorem own_lower {w : World} {base base' : Nat} {e : TypeId} {size : Nat} {v : Value} {n : Nat} {xs : List Value} (h : w.ownsRow base e size v n xs) (hb : base' ≤ base) : w.ownsRow base' e size v n xs :=
  ⟨h.1, h.2.imp id fun ⟨g, cap, cur, a, b, c⟩ => ⟨g, cap, cur, a, Nat.le_trans hb b, c⟩⟩
theorem Tryz.infoInt : (Tryz.prog.info? 3).map (fun i => (i.zero, i.size, i.bytes)) = some (some (.int .i64 0), 1, 8) := by kernel_rfl
theorem own_cellN {w : World} {B g n cap : Nat} {e : TypeId} {xs : List Value} (h : w.ownsRow B e 1 (.slice (some ⟨g, 0, none⟩) n cap) n xs) (j : Nat) (hj : j < n) : ∃ u, w.cell? ⟨g, j, none⟩ = some u := by
  have hx := h.1
  rw [h.cellAt j (by omega)]
  exact ⟨xs[j]'(by omega), List.getElem?_eq_getElem _⟩
/-- what registers returns -/
def RegsPost (w : World) (pss : List (List Ins)) (e : Ending) (w' : World) : Prop :=
  Below w.heap.size w w' ∧
  ((e = .returned (.tuple #[.slice none 0 0, .int .i64 1]) ∧ ∃ p ∈ pss, ¬ PValid p) ∨
   ((∀ p ∈ pss, PValid p) ∧
    ((e = .returned (.tuple #[.slice none 0 0, .int .i64 8]) ∧ ∃ p ∈ pss, 28 < rn p) ∨
     ((∀ p ∈ pss, rn p ≤ 28) ∧ ∃ g, e = .returned (.tuple #[.slice (some ⟨g, 0, none⟩) pss.length pss.length, .int .i64 0]) ∧ NumsAt w' g 0 (pss.map rn)))))
def numV (l : List Nat) : List Value := l.map fun (x : Nat) => .int .i64 (x : Int)
end Go.Proofs.YtmhoacnbmbhcjaaGreatDoor

namespace Go.Proofs.YtmhoacnbmbhcjaaGreatDoor
open Go.RowKit Pl

theorem set_same_list {xs : List Value} {j : Nat} {u : Value} (h : xs[j]? = some u) : xs.set j u = xs := by
  obtain ⟨h1, rfl⟩ := List.getElem?_eq_some_iff.1 h
  exact List.set_getElem_self _
theorem OwnP.stored {w : World} {B g cap : Nat} {ps : List Ins} (h : OwnP w B (.slice (some ⟨g, 0, none⟩) ps.length cap) ps) {j : Nat} {u : Value} (hj : (progV ps)[j]? = some u) : OwnP (w.setCell ⟨g, j, none⟩ u) B (.slice (some ⟨g, 0, none⟩) ps.length cap) ps := by
  have h1 := (World.ownsRow.stored h j u).1
  rw [set_same_list hj] at h1
  exact h1
/-- what join returns -/
def JoinPost (w : World) (cs : List Ins) (e : Ending) (w' : World) : Prop :=
  Below w.heap.size w w' ∧ ((PValid cs ∧ ∃ v, e = .returned (.tuple #[v, .int .i64 0]) ∧ ArgP w' v cs) ∨ (¬ PValid cs ∧ e = .returned (.tuple #[.slice none 0 0, .int .i64 3])))
/-- the same, and the program is its own -/
def JoinOwn (w : World) (cs : List Ins) (e : Ending) (w' : World) : Prop :=
  Below w.heap.size w w' ∧ ((PValid cs ∧ ∃ v, e = .returned (.tuple #[v, .int .i64 0]) ∧ OwnP w' w.heap.size v cs) ∨ (¬ PValid cs ∧ e = .returned (.tuple #[.slice none 0 0, .int .i64 3])))
set_option maxHeartbeats 3200000 in
set_option maxRecDepth 100000 in
theorem join_own (w : World) (b off cap : Nat) (pss : List (List Ins)) (cs : List Ins) (hcs : pss.flatten = cs) (hc : PiecesAt w b off pss) (hm : pss.length ≤ 281474976710656) (hz : cs.length * 48 ≤ 140737488355328) (ht : ∀ x ∈ cs, x.tree.length ≤ 281474976710656) :
    Calls Tryz.prog 60 #[.slice (some ⟨b, off, none⟩) pss.length cap] w (JoinOwn w cs) := by
  have HC := Lib.hid (Concat_any w b off cap pss hc hm (by rw [hcs]; exact hz))
  rw [hcs] at HC
  obtain ⟨r, hr⟩ := pv_bool cs
  have HV := Lib.hid (fun W v h => CV_arg W v cs r h (by omega) ht hr)
  have HR := Lib.hid hr
  have HT := Lib.hid ht
  clear hc hcs hr ht hm
  go_enter Tryz.func60, Tryz.ntmps60
  go_wp2_with fail
  refine HC.out.mono ?_
  rintro e w1 ⟨v1, rfl, ho1, h1⟩
  obtain ⟨a1, c1, rfl⟩ : ∃ a c, v1 = .slice a cs.length c := (OwnP.arg (ps := cs) ho1).form
  have HO1 : Hid (OwnP w1 w.heap.size (.slice a1 cs.length c1) cs) := Lib.hid ho1
  have HA1 := Lib.hid (OwnP.arg (ps := cs) ho1)
  clear ho1 HC
  go_wp2_with fail
  refine (HV.out _ _ HA1.out).mono ?_
  rintro e w2 ⟨rfl, h2⟩
  have hb2 := bstep h1 h2
  have HO2 := Lib.hid (HO1.out.below h2)
  clear h1 h2 HO1 HA1 HV
  cases r with
  | false =>
    have HN : Hid (¬ PValid cs) := Lib.hid (fun h => by have := HR.out.2 h; cases this)
    go_wp2_with fail
    go_ret2
    exact ⟨hb2, .inr ⟨HN.out, rfl⟩⟩
  | true =>
    have HP : Hid (PValid cs) := Lib.hid (HR.out.1 rfl)
    clear HR
    rcases Nat.eq_zero_or_pos cs.length with h0 | h0
    · have HL := Lib.hid h0
      rw [h0] at HO2 ⊢
      clear h0 hz
      go_wp2
      go_loopw [13] (fun i wr => i = .int .i64 0 ∧ wr = w2) (fun _ _ => 0)
      case atStart => exact ⟨rfl, rfl⟩
      case round =>
        obtain ⟨rfl, rfl⟩ := hrel
        go_wp2
        go_ret2
        refine ⟨hb2, .inl ⟨HP.out, _, rfl, ?_⟩⟩
        exact HO2.out
    · obtain ⟨g, cap2, he, hg, _⟩ := (own_prog HO2.out).2.2 h0
      obtain ⟨rfl, rfl⟩ : a1 = some ⟨g, 0, none⟩ ∧ c1 = cap2 := by simpa using he
      clear he
      have HZ := Lib.hid hz
      generalize hn : cs.length = n at *
      have HL := Lib.hid hn
      have hn4 : n ≤ 281474976710656 := by omega
      clear h0 hz hn
      go_wp2
      go_loopw [13] (fun i wr => ∃ k : Nat, k ≤ n ∧ i = .int .i64 k ∧ Hid (OwnP wr w.heap.size (.slice (some ⟨g, 0, none⟩) n c1) cs) ∧ Below w.heap.size w wr) (fun i _ => n - (intOf i).toNat)
      case atStart => exact ⟨0, Nat.zero_le _, rfl, HO2, hb2⟩
      case round =>
        clear HO2 hb2
        obtain ⟨k, hk, rfl, HO, hb⟩ := hrel
        have hsz := hb.size
        by_cases hlt : k < n
        · have hk1 : (k : Int) < (n : Int) := by omega
          obtain ⟨x, hx⟩ := get_at (ps := cs) (k := k) (by rw [HL.out]; exact hlt)
          have hxt := HT.out x (List.mem_of_getElem? hx)
          have hpv : (progV cs)[k * 5 + 4]? = some (.string (S x.tree)) := by rw [progV_at hx (by omega)]; rfl
          have HPV := Lib.hid hpv
          have hlt5 : k * 5 + 4 < n * 5 := by omega
          have hcellW : ∀ W, OwnP W w.heap.size (.slice (some ⟨g, 0, none⟩) n c1) cs → W.cell? ⟨g, k * 5 + 4, none⟩ = some (.string (S x.tree)) ∧ W.frozen? ⟨g, k * 5 + 4, none⟩ = false := by
            intro W hW
            unfold OwnP at hW
            rw [HL.out] at hW
            exact ⟨by rw [hW.cellAt (k * 5 + 4) hlt5]; exact HPV.out, hW.frozenAt (k * 5 + 4)⟩
          have HCW := Lib.hid hcellW
          have c4 := (HCW.out _ HO.out).1
          have HQ := Lib.hid (fun W => Clone_any (S x.tree) W (by rw [S_size]; exact hxt))
          clear hx hpv hcellW
          go_wp2_with fail
          refine (HQ.out _).mono ?_
          rintro e w3 ⟨rfl, h3⟩
          have hb3 := hb.trans (h3.mono hsz)
          have HO3 := Lib.hid (HO.out.below h3)
          obtain ⟨d4, f4⟩ := HCW.out _ HO3.out
          have HO4 : Hid (OwnP (w3.setCell ⟨g, k * 5 + 4, none⟩ (.string (S x.tree))) w.heap.size (.slice (some ⟨g, 0, none⟩) n c1) cs) := Lib.hid (by
            have h5 := HO3.out
            rw [← HL.out] at h5 ⊢
            exact h5.stored HPV.out)
          have HB4 := Lib.hid (hb3.setCell (p := ⟨g, k * 5 + 4, none⟩) hg (.string (S x.tree)))
          clear c4 h3 hb hb3
          go_wp2_with fail
          go_roundw
          case rel => exact ⟨k + 1, by omega, by go_num, HO4, HB4.out⟩
          case measure => simp [intOf]; omega
        · obtain rfl : k = n := by omega
          go_wp2_with fail
          go_ret2
          exact ⟨hb, .inl ⟨HP.out, _, rfl, HO.out⟩⟩
theorem join_any (w : World) (b off cap : Nat) (pss : List (List Ins)) (cs : List Ins) (hcs : pss.flatten = cs) (hc : PiecesAt w b off pss) (hm : pss.length ≤ 281474976710656) (hz : cs.length * 48 ≤ 140737488355328) (ht : ∀ x ∈ cs, x.tree.length ≤ 281474976710656) :
    Calls Tryz.prog 60 #[.slice (some ⟨b, off, none⟩) pss.length cap] w (JoinPost w cs) := by
  refine (join_own w b off cap pss cs hcs hc hm hz ht).mono ?_
  rintro e w' ⟨h1, ⟨h2, v, h3, h4⟩ | h2⟩
  · exact ⟨h1, .inl ⟨h2, v, h3, h4.arg⟩⟩
  · exact ⟨h1, .inr h2⟩
end Go.Proofs.YtmhoacnbmbhcjaaGreatDoor

namespace Go.Proofs.YtmhoacnbmbhcjaaGreatDoor
open Go.RowKit Pl

open Classical in
/-- the error that is due for programs and the one that is made of them -/
noncomputable def dueP (l : List (List Ins)) (cs : List Ins) : Int :=
  if ∃ p ∈ l, ¬ PValid p then 1 else if ∃ p ∈ l, 28 < rn p then 8 else if FitsP cs then 0 else 3
/-- what a function of the package returns -/
def BPost (w : World) (due : Int) (cs : List Ins) (e : Ending) (w' : World) : Prop :=
  Below w.heap.size w w' ∧ ((due = 0 ∧ ∃ v, e = .returned (.tuple #[v, .int .i64 0]) ∧ ArgP w' v cs) ∨ (due ≠ 0 ∧ e = .returned (.tuple #[.slice none 0 0, .int .i64 due])))
theorem due_form {l : List (List Ins)} {cs : List Ins} (h : ∃ p ∈ l, ¬ PValid p) : dueP l cs = 1 := if_pos h
theorem due_regs {l : List (List Ins)} {cs : List Ins} (h : ∀ p ∈ l, PValid p) (h2 : ∃ p ∈ l, 28 < rn p) : dueP l cs = 8 := by
  unfold dueP; rw [if_neg (by rintro ⟨p, h1, h2⟩; exact h2 (h p h1)), if_pos h2]
theorem fits_is {cs : List Ins} (h : AllR cs) {w w' : World} {e : Ending} {l : List (List Ins)} (hv : ∀ p ∈ l, PValid p) (h2 : ∀ p ∈ l, rn p ≤ 28) (hj : JoinPost w cs e w') : BPost w (dueP l cs) cs e w' := by
  refine ⟨hj.1, ?_⟩
  unfold dueP
  rw [if_neg (by rintro ⟨p, h1, h2⟩; exact h2 (hv p h1)), if_neg (by rintro ⟨p, h1, h3⟩; have := h2 p h1; omega)]
  rcases hj.2 with ⟨h3, h4⟩ | ⟨h3, h4⟩
  · rw [if_pos ((fits_valid h).1 h3)]; exact .inl ⟨rfl, h4⟩
  · rw [if_neg (fun h5 => h3 ((fits_valid h).2 h5))]; exact .inr ⟨by omega, h4⟩
theorem lit_piecesB {w : World} {b : Nat} (hb : b = w.heap.size) (vs : List Value) (pss : List (List Ins)) (h : ArgsP w vs pss) : PiecesAt (w.alloc (.cells vs.toArray 23)) b 0 pss := by
  subst hb; exact lit_pieces w vs pss h
theorem const_valid {l : List UInt8} (h : vld l = true) : PValid [setI 0 l] := (fits_valid (allR_const h)).2 ⟨by simp, by
  have h1 := (vld_iff.1 h).1
  have : trees [setI 0 l] = l.length := by simp [trees, setI]
  omega⟩
def thenTo (l : List (List Ins)) (k : Nat) : List Ins := thenL (l.take k)
theorem thenL_snoc {l : List (List Ins)} (h : l ≠ []) (p : List Ins) : thenL (l ++ [p]) = thenL l ++ behind p := by
  cases l with
  | nil => exact absurd rfl h
  | cons q l => simp [thenL]
theorem thenTo_one {l : List (List Ins)} {p : List Ins} (h : l[0]? = some p) : thenTo l 1 = p := by
  cases l with
  | nil => simp at h
  | cons q l => simp at h; subst h; simp [thenTo, thenL]
theorem thenTo_succ {l : List (List Ins)} {k : Nat} {p : List Ins} (h : l[k]? = some p) (h0 : 0 < k) : thenTo l (k + 1) = thenTo l k ++ behind p := by
  obtain ⟨hk, rfl⟩ := List.getElem?_eq_some_iff.1 h
  unfold thenTo
  rw [List.take_succ_eq_append_getElem hk]
  exact thenL_snoc (by cases l with | nil => simp at hk | cons q l => cases k with | zero => omega | succ k => simp) _
theorem thenTo_all {l : List (List Ins)} {k : Nat} (h : l.length ≤ k) : thenTo l k = thenL l := by unfold thenTo; rw [List.take_of_length_le h]
theorem thenL_app (a b : List (List Ins)) : (thenL a).length ≤ (thenL (a ++ b)).length := by
  cases a with
  | nil => simp [thenL]
  | cons p a => simp [thenL, List.flatMap_append]
theorem thenTo_le (l : List (List Ins)) (k : Nat) : (thenTo l k).length ≤ (thenL l).length := by
  have h := thenL_app (l.take k) (l.drop k)
  rw [List.take_append_drop] at h; exact h
theorem thenTo_mem {l : List (List Ins)} {k : Nat} {x : Ins} (hv : ∀ p ∈ l, PValid p) (h : x ∈ thenTo l k) : x.tree.length ≤ 2000000 := by
  unfold thenTo at h
  have hr : AllR (thenL (l.take k)) := allR_then (fun p hp => hv p (List.mem_of_mem_take hp))
  obtain ⟨j, hj⟩ := List.mem_iff_getElem?.1 h
  exact right_tree_le (hr j x hj)
end Go.Proofs.YtmhoacnbmbhcjaaGreatDoor

namespace Go.Proofs.YtmhoacnbmbhcjaaGreatDoor
open Go.RowKit Pl

theorem behind_len (p : List Ins) : (behind p).length = rn p - 1 + p.length := by unfold behind; rw [List.length_append, cleanL_len]
def yesL (n : Int) (p : List Ins) : List Ins := moveI 0 n :: behind p
def noL (n : Int) (q : List Ins) (k : Int) : List Ins := moveI 0 n :: behind q ++ [setI n [49, 48, 48], jumpI n (1 + k)]
theorem yesL_len (n : Int) (p : List Ins) : (yesL n p).length = (behind p).length + 1 := rfl
theorem noL_len (n : Int) (q : List Ins) (k : Int) : (noL n q k).length = (behind q).length + 3 := by simp [noL]
theorem ifL_is (c p q : List Ins) {n : Nat} (hn : max (max (rn c) (rn p)) (rn q) = n) {y o : Nat} (hy : (yesL n p).length = y) (ho : (noL n q y).length = o) :
    ([[moveI n 0], c, [jumpI 0 (1 + (o : Int))], noL n q y, yesL n p] : List (List Ins)).flatten = ifL c p q := by
  have e1 : (1 : Int) + (o : Int) = ((behind q).length : Int) + 4 := by rw [← ho, noL_len]; omega
  have e2 : (1 : Int) + (y : Int) = ((behind p).length : Int) + 2 := by rw [← hy, yesL_len]; omega
  unfold ifL
  rw [hn, e1]
  unfold noL
  rw [e2]
  simp [yesL]
theorem valid_tree {p : List Ins} (h : PValid p) : ∀ x ∈ p, x.tree.length ≤ 2000000 := fun x hx => by
  have := tree_le x hx
  have := h.2.1
  omega
theorem allR_tree {cs : List Ins} (h : AllR cs) : ∀ x ∈ cs, x.tree.length ≤ 281474976710656 := fun x hx => by
  obtain ⟨k, hk⟩ := List.mem_iff_getElem?.1 hx
  have := right_tree_le (h k x hk)
  omega
/-- sizes of what comes in -/
def SizeP (p : List Ins) : Prop := p.length ≤ 281474976710656 ∧ ∀ x ∈ p, x.tree.length ≤ 281474976710656
theorem max3 (a b c : Nat) : maxL [a, b, c] = max (max a b) c := by simp [maxL]
theorem max2 (a b : Nat) : maxL [a, b] = max a b := by simp [maxL]
theorem ifL_len (c p q : List Ins) : (ifL c p q).length = c.length + (behind p).length + (behind q).length + 6 := by
  unfold ifL
  simp only [List.length_append, List.length_cons, List.length_nil]; omega
end Go.Proofs.YtmhoacnbmbhcjaaGreatDoor

namespace Go.Proofs.YtmhoacnbmbhcjaaGreatDoor
open Go.RowKit Pl

theorem rdep {md : Region.Mode} {ops : Array Oper} {listed : Array Bool} {i : Nat} {o : Oper} (hi : i ∈ Region.ready md ops listed) (ho : ops[i]? = some o) (e : Edge) (he : e ∈ o.after) (hb : Region.binds md e = true) : listed.getD e.on false = true := by
  obtain ⟨_, o', ho', h⟩ := mem_ready.1 hi
  rw [ho] at ho'
  obtain rfl := Option.some.inj ho'
  exact h e he hb
open Classical in
noncomputable def errOf (cs : List Ins) : Int := if PValid cs then 0 else 3
def ResP (w : World) (v : Value) (cs : List Ins) : Prop := (PValid cs → ArgP w v cs) ∧ (¬ PValid cs → v = .slice none 0 0)
inductive RK
  | val (y : Value)
  | prog (ps : List Ins)
  | pcs (pss : List (List Ins))
  | tup (cs : List Ins)
  | res (cs : List Ins)
def RK.ok (w : World) (x : Value) : RK → Prop
  | .val y => x = y
  | .prog ps => ∃ a c, x = .slice a ps.length c ∧ ArgP w (.slice a ps.length c) ps
  | .pcs pss => ∃ b, x = .slice (some ⟨b, 0, none⟩) pss.length pss.length ∧ PiecesAt w b 0 pss
  | .tup cs => ∃ v, x = .tuple #[v, .int .i64 (errOf cs)] ∧ ResP w v cs
  | .res cs => ResP w x cs
theorem ResP.below {w w1 : World} {v : Value} {cs : List Ins} (h : ResP w v cs) (hb : Below w.heap.size w w1) : ResP w1 v cs := ⟨fun hp => (h.1 hp).below hb, h.2⟩
theorem RK.ok.below {w w1 : World} {x : Value} {k : RK} (h : k.ok w x) (hb : Below w.heap.size w w1) : k.ok w1 x := by
  cases k with
  | val y => exact h
  | prog ps => obtain ⟨a, c, h1, h2⟩ := h; exact ⟨a, c, h1, h2.below hb⟩
  | pcs pss => obtain ⟨b, h1, h2⟩ := h; exact ⟨b, h1, h2.below hb⟩
  | tup cs => obtain ⟨v, h1, h2⟩ := h; exact ⟨v, h1, h2.below hb⟩
  | res cs => exact ResP.below h hb
theorem RK.step {K : Nat → RK} {sl : Nat → Nat} (hinj : ∀ i j, i ≠ j → sl i ≠ sl j) {w w1 : World} {listed : Array Bool} {i s : Nat} {v : Nat → Value} {x : Value} (hs : sl i = s) (hb : Below w.heap.size w w1)
    (hG : ∀ j, listed.getD j false = true → (K j).ok w (v (sl j))) (hx : (K i).ok w1 x) :
    ∀ j, (listed.setIfInBounds i true).getD j false = true → (K j).ok w1 ((fun k => if k = s then x else v k) (sl j)) := by
  intro j hj
  by_cases h : j = i
  · subst h; simp only [hs, if_true]; exact hx
  · have h1 := hinj j i h
    rw [hs] at h1
    simp only [if_neg h1]
    exact (hG j (by rwa [getD_set_ne false (Ne.symm h)] at hj)).below hb
theorem JoinPost.res {w w' : World} {cs : List Ins} {e : Ending} (h : JoinPost w cs e w') : Below w.heap.size w w' ∧ ∃ v, e = .returned (.tuple #[v, .int .i64 (errOf cs)]) ∧ ResP w' v cs := by
  refine ⟨h.1, ?_⟩
  unfold errOf
  rcases h.2 with ⟨h1, v, rfl, h2⟩ | ⟨h1, rfl⟩
  · rw [if_pos h1]; exact ⟨v, rfl, fun _ => h2, fun h => absurd h1 h⟩
  · rw [if_neg h1]; exact ⟨_, rfl, fun h => absurd h h1, fun _ => rfl⟩
theorem fits_res {cs : List Ins} (hr : AllR cs) {w w' : World} {v : Value} {l : List (List Ins)} (hv : ∀ p ∈ l, PValid p) (h2 : ∀ p ∈ l, rn p ≤ 28) (hb : Below w.heap.size w w') (h : ResP w' v cs) :
    BPost w (dueP l cs) cs (.returned (.tuple #[v, .int .i64 (errOf cs)])) w' := by
  refine fits_is hr hv h2 ⟨hb, ?_⟩
  unfold errOf
  by_cases h1 : PValid cs
  · rw [if_pos h1]; exact .inl ⟨h1, v, rfl, h.1 h1⟩
  · rw [if_neg h1, h.2 h1]; exact .inr ⟨h1, rfl⟩
/-- an operation that has been listed has been carried out -/
theorem start_none {n j : Nat} (h : (Array.replicate n false).getD j false = true) : False := by
  rw [Array.getD_eq_getD_getElem?, Array.getElem?_replicate] at h
  split at h <;> simp at h
theorem one_prog (w : World) (x : Ins) : RK.ok (w.alloc (.cells (progV [x]).toArray 64)) (.slice (some ⟨w.heap.size, 0, none⟩) 1 1) (.prog [x]) := ⟨_, _, rfl, lit_prog w [x] (by simp)⟩
end Go.Proofs.YtmhoacnbmbhcjaaGreatDoor

namespace Go.Proofs.YtmhoacnbmbhcjaaGreatDoor
open Go.RowKit Pl

theorem pairL_is (p q : List Ins) {n : Nat} (hn : max (rn p) (rn q) = n) :
    ([[moveI n 0], p, [moveI ((n : Int) + 1) 0], moveI 0 n :: cleanL (rn q), q, [consI 0 ((n : Int) + 1) 0]] : List (List Ins)).flatten = pairL p q := by
  unfold pairL behind
  rw [hn]
  simp
theorem pairL_len (p q : List Ins) : (pairL p q).length = p.length + (behind q).length + 4 := by
  unfold pairL
  simp only [List.length_append, List.length_cons, List.length_nil]; omega
noncomputable def pairK (n : Nat) (g : Nat) (p q : List Ins) (vp vq : Value) : Nat → RK
  | 0 => .val (.int .i64 (n : Int))
  | 1 => .val (.agg #[.int .i64 1, .int .i64 (n : Int), .int .i64 0, .int .i64 0, .string ⟨#[]⟩])
  | 2 => .prog [moveI (n : Int) 0]
  | 3 => .val vp
  | 4 => .val (.int .i64 (n : Int))
  | 5 => .val (.int .i64 ((n : Int) + 1))
  | 6 => .val (.agg #[.int .i64 1, .int .i64 ((n : Int) + 1), .int .i64 0, .int .i64 0, .string ⟨#[]⟩])
  | 7 => .prog [moveI ((n : Int) + 1) 0]
  | 8 => .val (.int .i64 (n : Int))
  | 9 => .val (.slice (some ⟨g, 0, none⟩) 2 2)
  | 10 => .val (.pointer (some ⟨g, 1, none⟩))
  | 11 => .val (.int .i64 (rn q : Int))
  | 12 => .prog (moveI 0 (n : Int) :: cleanL (rn q))
  | 13 => .val vq
  | 14 => .val (.int .i64 (n : Int))
  | 15 => .val (.int .i64 ((n : Int) + 1))
  | 16 => .val (.agg #[.int .i64 2, .int .i64 0, .int .i64 ((n : Int) + 1), .int .i64 0, .string ⟨#[]⟩])
  | 17 => .prog [consI 0 ((n : Int) + 1) 0]
  | 18 => .pcs [[moveI (n : Int) 0], p, [moveI ((n : Int) + 1) 0], moveI 0 (n : Int) :: cleanL (rn q), q, [consI 0 ((n : Int) + 1) 0]]
  | 19 => .tup (pairL p q)
  | 20 => .res (pairL p q)
  | 21 => .val (.int .i64 (errOf (pairL p q)))
  | 22 => .res (pairL p q)
  | _ => .val (.int .i64 (errOf (pairL p q)))
def pairS (j : Nat) : Nat := if j = 22 then 4 else if j = 23 then 5 else j + 21
theorem pairS_ne (i j : Nat) (h : i ≠ j) : pairS i ≠ pairS j := by unfold pairS; (repeat' split) <;> omega
end Go.Proofs.YtmhoacnbmbhcjaaGreatDoor

namespace Go.Proofs.YtmhoacnbmbhcjaaGreatDoor
open Go.RowKit Pl

def bodyL (n : Int) (p : List Ins) : List Ins := moveI 0 n :: behind p ++ [setI n [49, 48, 48]]
def stopL (n k : Int) : List Ins := [moveI 0 n, setI n [49, 48, 48], jumpI n (1 + k)]
def loopL (n : Int) (c p : List Ins) (k : Int) : List Ins := (moveI n 0 :: behind c) ++ [jumpI 0 4] ++ stopL n k ++ bodyL n p
theorem bodyL_len (n : Int) (p : List Ins) : (bodyL n p).length = (behind p).length + 2 := by simp [bodyL]
theorem loopL_len (n : Int) (c p : List Ins) (k : Int) : (loopL n c p k).length = (behind c).length + (behind p).length + 7 := by
  unfold loopL stopL bodyL
  simp only [List.length_append, List.length_cons, List.length_nil]; omega
theorem whileL_is (c p : List Ins) {n : Nat} (hn : max (rn c) (rn p) = n) {y l : Nat} (hy : (bodyL n p).length = y) (hl : (loopL n c p ((y : Int) + 1)).length = l) :
    ([loopL n c p ((y : Int) + 1), [jumpI n (-(l : Int))]] : List (List Ins)).flatten = whileL c p := by
  have e1 : (1 : Int) + ((y : Int) + 1) = ((behind p).length : Int) + 4 := by rw [← hy, bodyL_len]; omega
  have e3 : loopL n c p ((y : Int) + 1) = [moveI n 0] ++ behind c ++ [jumpI 0 4, moveI 0 n, setI n [49, 48, 48], jumpI n (((behind p).length : Int) + 4), moveI 0 n] ++ behind p ++ [setI n [49, 48, 48]] := by
    unfold loopL stopL bodyL
    rw [e1]
    simp
  rw [← hl, e3]
  unfold whileL
  rw [hn]
  simp
theorem whileL_len (c p : List Ins) : (whileL c p).length = (behind c).length + (behind p).length + 8 := by
  unfold whileL
  simp only [List.length_append, List.length_cons, List.length_nil]; omega
noncomputable def whileK (n g : Nat) (c : List Ins) (vc : Value) : Nat → RK
  | 0 => .val (.int .i64 (n : Int))
  | 1 => .val (.agg #[.int .i64 1, .int .i64 (n : Int), .int .i64 0, .int .i64 0, .string ⟨#[]⟩])
  | 2 => .prog [moveI (n : Int) 0]
  | 3 => .val (.slice (some ⟨g, 0, none⟩) 2 2)
  | 4 => .val (.pointer (some ⟨g, 0, none⟩))
  | 5 => .val (.int .i64 (rn c : Int))
  | 6 => .prog (cleanL (rn c))
  | 7 => .val vc
  | 8 => .pcs [[moveI (n : Int) 0], cleanL (rn c), c]
  | 9 => .prog (moveI (n : Int) 0 :: behind c)
  | _ => .prog (moveI (n : Int) 0 :: behind c)
def whileS (j : Nat) : Nat := if j = 10 then 9 else j + 25
theorem whileS_ne (i j : Nat) (h : i ≠ j) : whileS i ≠ whileS j := by unfold whileS; (repeat' split) <;> omega
end Go.Proofs.YtmhoacnbmbhcjaaGreatDoor
