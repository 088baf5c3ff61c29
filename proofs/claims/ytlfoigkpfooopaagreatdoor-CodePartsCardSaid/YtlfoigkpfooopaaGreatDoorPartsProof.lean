/- CodeParts, for every two programs: the code of a program is the list whose Items are the codes of its instructions, one for each; and of two programs, one after the other, the items are those of each, if they have no jumps beyond themselves: the law returns true, and its arguments read as they did. No condition beyond the row's own. By an AI agent. -/
import Derived.Test.YtlfoigkpfooopaaGreatDoorGens
import Derived.Test.YtlfoigkpfooopaaGreatDoorOpenP
import Derived.Test.YtlfoigkpfooopaaGreatDoorCards
import Derived.Test.YtlfoigkpfooopaaGreatDoorTie
import Derived.SevenTiedAt
namespace Go.Proofs.YtlfoigkpfooopaaGreatDoor
open Go.RowKit Pl

theorem wpList_unguard {P : Program} {ops : Array Oper} {Q : Exit → Act → World → Prop} {a : Act} {w : World} {rest : List Oper} {o : Oper}
    (hw : Region.wanted o (yielded ops a.tmps) = true) (h : wpList P ops Q ({ o with guard := none } :: rest) a w) : wpList P ops Q (o :: rest) a w := by
  unfold wpList at h ⊢
  rw [if_pos hw]
  rw [if_pos (by simp [Region.wanted])] at h
  exact h
theorem wpList_append_prog {ops : Array Oper} {rest : List Oper} {o : Oper} {a : Act} {w : World} {Q : Exit → Act → World → Prop} (hgd : o.guard = none) (s x : Operand)
    (ho : o.op = .call { callee := .builtin .append, args := #[s, x], argTypes := #[23, 23] })
    (base : Nat) (v u : Value) (n : Nat) (ps qs : List Ins) (hs : a.eval s = v) (hown : w.ownsRow base 46 5 v n (progV ps)) (hx : a.eval x = u) (hA : ArgP w u qs)
    (h63 : (n + qs.length) * 48 ≤ 140737488355328) (hbase : base ≤ w.heap.size)
    (h : ∀ v' w', w'.ownsRow base 46 5 v' (n + qs.length) (progV (ps ++ qs)) → w.grownBy w' v.ownBlock → wpList Tryz.prog ops Q rest (a.put o.dst v') w') : wpList Tryz.prog ops Q (o :: rest) a w := by
  obtain ⟨i0, hi, hz0, hz1, hz2⟩ := info_parts Tryz.infoIns
  have key : ∀ (ad : Addr) (m cap : Nat), u = .slice (some ad) m cap → m = qs.length → (∀ j y, (progV qs)[j]? = some y → w.cell? (ad.add j) = some y) → wpList Tryz.prog ops Q (o :: rest) a w := by
    intro ad m cap hu hm hc
    refine wpList_append_own _ hgd s x 23 ho base 46 i0 (.agg #[.int .i64 0, .int .i64 0, .int .i64 0, .int .i64 0, .string ⟨#[]⟩]) 5 48 Tryz.underlying23 hi hz0 hz1 hz2 rfl (by decide) v n (progV ps) hs hown ad m cap (progV qs) (hx.trans hu) (by rw [progV_len, hm]) hc (progV_oneCell qs) (by unfold maxLen; omega) (by omega) hbase fun v' w' h1 h2 _ => ?_
    rw [hm, ← progV_app] at h1
    exact h v' w' h1 h2
  rcases hA with ⟨rfl, rfl | ⟨ad, cap, rfl⟩⟩ | ⟨_, b, off, cap, rfl, hc⟩
  · refine wpList_append_own_none hgd s x 23 ho base 46 i0 5 Tryz.underlying23 hi v n (progV ps) hs hown hx ?_
    exact h v w (by rw [List.append_nil]; exact hown) (World.grownBy.refl w _)
  · exact key ad 0 cap rfl rfl (fun j y hy => by simp [progV] at hy)
  · exact key ⟨b, off, none⟩ qs.length cap rfl rfl hc.cell
theorem wpList_append_strs {ops : Array Oper} {rest : List Oper} {o : Oper} {a : Act} {w : World} {Q : Exit → Act → World → Prop} (hgd : o.guard = none) (s x : Operand)
    (ho : o.op = .call { callee := .builtin .append, args := #[s, x], argTypes := #[40, 40] })
    (base : Nat) (v u : Value) (n m base2 : Nat) (ps qs : List (List UInt8)) (hs : a.eval s = v) (hown : w.ownsRow base 9 1 v n (strsV ps)) (hx : a.eval x = u) (hA : w.ownsRow base2 9 1 u m (strsV qs))
    (h63 : (n + m) * 16 ≤ 140737488355328) (hbase : base ≤ w.heap.size)
    (h : ∀ v' w', w'.ownsRow base 9 1 v' (n + m) (strsV (ps ++ qs)) → w.grownBy w' v.ownBlock → wpList Tryz.prog ops Q rest (a.put o.dst v') w') : wpList Tryz.prog ops Q (o :: rest) a w := by
  obtain ⟨i0, hi, hz0, hz1, hz2⟩ := info_parts Tryz.infoStr
  have hm := hA.1
  have hc := fun (g : Nat) => hA.cells (g := g)
  rcases hA.2 with ⟨rfl, rfl⟩ | ⟨g, cap, cur, rfl, _⟩
  · have e : strsV qs = [] := List.eq_nil_of_length_eq_zero (by omega)
    refine wpList_append_own_none hgd s x 40 ho base 9 i0 1 Tryz.underlying40 hi v n (strsV ps) hs hown hx ?_
    exact h v w (by rw [strsV_app, e, List.append_nil]; exact hown) (World.grownBy.refl w _)
  · refine wpList_append_own _ hgd s x 40 ho base 9 i0 (.string ⟨#[]⟩) 1 16 Tryz.underlying40 hi hz0 hz1 hz2 rfl (by decide) v n (strsV ps) hs hown ⟨g, 0, none⟩ m cap (strsV qs) hx hm (hc g rfl) (strs_one qs) (by unfold maxLen; omega) (by omega) hbase fun v' w' h1 h2 _ => ?_
    rw [← strsV_app] at h1
    exact h v' w' h1 h2
end Go.Proofs.YtlfoigkpfooopaaGreatDoor

namespace Go.Proofs.YtlfoigkpfooopaaGreatDoor
open Go.RowKit Pl

def BRes (ps : List Ins) (B : List UInt8) (w : World) (e : Ending) (w' : World) : Prop :=
  ((B.length ≤ 2000000 ∧ e = .returned (.tuple #[.string (S B), .int .i64 0])) ∨ (e = .returned (.tuple #[.string (S []), .int .i64 3])) ∨ (¬ PValid ps ∧ e = .returned (.tuple #[.string (S []), .int .i64 1]))) ∧ Below w.heap.size w w'
theorem Code_both (w : World) (v : Value) (ps : List Ins) (h : ArgP w v ps) (hl : ps.length ≤ 8000) (hz : ∀ x ∈ ps, x.tree.length ≤ 2000000) :
    Calls Tryz.prog 11 #[v] w (BRes ps (enc (codes ps)) w) := by
  by_cases hp : PValid ps
  · refine (PCode_arg w v ps h hp).mono fun e w' ⟨h1, h2⟩ => ⟨?_, h2⟩
    rcases h1 with ⟨a, b⟩ | ⟨_, b⟩
    · exact .inl ⟨a, b⟩
    · exact .inr (.inl b)
  · exact (PCode_bad w v ps h (by omega) (fun x hx => by have := hz x hx; omega) hp).mono fun e w' ⟨h1, h2⟩ => ⟨.inr (.inr ⟨hp, h1⟩), h2⟩
theorem codes_app (ps qs : List Ins) : codes (ps ++ qs) = codes ps ++ codes qs := by simp [codes]
theorem Items_codes (ps : List Ins) (w : World) (hv : AllV (codes ps)) (hl : (enc (codes ps)).length ≤ 2000000) :
    Calls Tryz.prog 25 #[.string (S (enc (codes ps)))] w fun e w' => ∃ a c base, e = .returned (.tuple #[.slice a ps.length c, .int .i64 0]) ∧ w'.ownsRow base 9 1 (.slice a ps.length c) ps.length (strsV (codes ps)) ∧ Below w.heap.size w w' := by
  have e1 : (S (enc (codes ps))).data.toList = enc (codes ps) := by simp
  refine (Items_yes (S (enc (codes ps))) w (by rw [e1]; exact vld_enc hv hl)).mono ?_
  rintro e w' ⟨v, base, rfl, h1, h2⟩
  rw [e1, items_of_enc hv hl, codes_len] at h1
  have h3 := h1
  rcases h1.2 with ⟨rfl, h0⟩ | ⟨g, cap, cur, rfl, _⟩
  · refine ⟨none, 0, base, by rw [h0], ?_, h2⟩
    rw [h0] at h3 ⊢; exact h3
  · exact ⟨_, _, base, rfl, h3, h2⟩
theorem keep6 {W w1 : World} {g k b1 o : Nat} {u v0 v1 v2 v3 v4 : Value} (h : Below W.heap.size W w1) (hg : g < W.heap.size) (hb : b1 < W.heap.size)
    (hc : W.cell? ⟨g, k, none⟩ = some u ∧ W.cell? ⟨b1, o, none⟩ = some v0 ∧ W.cell? ⟨b1, o + 1, none⟩ = some v1 ∧ W.cell? ⟨b1, o + 2, none⟩ = some v2 ∧ W.cell? ⟨b1, o + 3, none⟩ = some v3 ∧ W.cell? ⟨b1, o + 4, none⟩ = some v4) :
    w1.cell? ⟨g, k, none⟩ = some u ∧ w1.cell? ⟨b1, o, none⟩ = some v0 ∧ w1.cell? ⟨b1, o + 1, none⟩ = some v1 ∧ w1.cell? ⟨b1, o + 2, none⟩ = some v2 ∧ w1.cell? ⟨b1, o + 3, none⟩ = some v3 ∧ w1.cell? ⟨b1, o + 4, none⟩ = some v4 :=
  ⟨(h.cell (p := ⟨g, k, none⟩) hg).trans hc.1, (h.cell (p := ⟨b1, o, none⟩) hb).trans hc.2.1, (h.cell (p := ⟨b1, o + 1, none⟩) hb).trans hc.2.2.1, (h.cell (p := ⟨b1, o + 2, none⟩) hb).trans hc.2.2.2.1, (h.cell (p := ⟨b1, o + 3, none⟩) hb).trans hc.2.2.2.2.1, (h.cell (p := ⟨b1, o + 4, none⟩) hb).trans hc.2.2.2.2.2⟩
theorem argP_form {w : World} {v : Value} {ps : List Ins} (h : ArgP w v ps) : ∃ a c, v = .slice a ps.length c := by
  rcases h with ⟨rfl, rfl | ⟨ad, cap, rfl⟩⟩ | ⟨_, b, off, cap, rfl, _⟩
  · exact ⟨_, _, rfl⟩
  · exact ⟨_, _, rfl⟩
  · exact ⟨_, _, rfl⟩

set_option maxHeartbeats 6400000 in
set_option maxRecDepth 100000 in
theorem parts_good (w : World) (v0 u0 : Option Addr) (vc uc : Nat) (ps qs : List Ins) (h : ArgP w (.slice v0 ps.length vc) ps) (h2 : ArgP w (.slice u0 qs.length uc) qs) (hp : PValid ps) (hq : PValid qs) (hE : Env w) :
    Calls Tryz.prog 8 #[.slice v0 ps.length vc, .slice u0 qs.length uc] w fun e w' => e = .returned (.bool true) ∧ Below w.heap.size w w' := by
  have hpl := hp.1; have hql := hq.1
  have hbl : (ps ++ qs).length = ps.length + qs.length := List.length_append
  have hbz : ∀ x ∈ ps ++ qs, x.tree.length ≤ 2000000 := fun x hx => by
    rcases List.mem_append.1 hx with hx | hx
    · have := tree_le x hx; have := hp.2.1; omega
    · have := tree_le x hx; have := hq.2.1; omega
  have HCX := Lib.hid (fun W t hW => PCode_arg W t ps hW hp)
  have HCZ := Lib.hid (fun W t hW => PCode_arg W t qs hW hq)
  have HCB := Lib.hid (fun W t hW => Code_both W t (ps ++ qs) hW (by omega) hbz)
  have HIX := Lib.hid (fun hl W => Items_codes ps W (codes_vld hp hl) hl)
  have HIZ := Lib.hid (fun hl W => Items_codes qs W (codes_vld hq hl) hl)
  have HIB : Hid ((enc (codes ps)).length ≤ 2000000 → (enc (codes qs)).length ≤ 2000000 → (enc (codes (ps ++ qs))).length ≤ 2000000 → ∀ W, Calls Tryz.prog 25 #[.string (S (enc (codes (ps ++ qs))))] W fun e w' => ∃ a c base, e = .returned (.tuple #[.slice a (ps.length + qs.length) c, .int .i64 0]) ∧ w'.ownsRow base 9 1 (.slice a (ps.length + qs.length) c) (ps.length + qs.length) (strsV (codes (ps ++ qs))) ∧ Below W.heap.size W w') :=
    Lib.hid (fun h1 h2 hl W => by rw [← hbl]; exact Items_codes (ps ++ qs) W (fun l hm => by
      rw [codes_app] at hm
      rcases List.mem_append.1 hm with hm | hm
      · exact codes_vld hp h1 l hm
      · exact codes_vld hq h2 l hm) hl)
  have HL : Hid ((ps ++ qs).length ≤ 281474976710656) := Lib.hid (by omega)
  have HLP : Hid (ps.length * 48 ≤ 140737488355328) := Lib.hid (by omega)
  have HLQ : Hid (qs.length * 48 ≤ 140737488355328) := Lib.hid (by omega)
  have HLB : Hid ((ps.length + qs.length) * 48 ≤ 140737488355328) := Lib.hid (by omega)
  have HZP : Hid (∀ x ∈ ps, x.tree.length ≤ 281474976710656) := Lib.hid (fun x hx => by have := tree_le x hx; have := hp.2.1; omega)
  have HZQ : Hid (∀ x ∈ qs, x.tree.length ≤ 281474976710656) := Lib.hid (fun x hx => by have := tree_le x hx; have := hq.2.1; omega)
  have HZB : Hid (∀ x ∈ ps ++ qs, x.tree.length ≤ 281474976710656) := Lib.hid (fun x hx => by have := hbz x hx; omega)
  have HLp : Hid (ps.length ≤ 4000) := Lib.hid hpl
  have HLq : Hid (qs.length ≤ 4000) := Lib.hid hql
  have HP0 := Lib.hid h; have HQ0 := Lib.hid h2; have HVP := Lib.hid hp; have HVQ := Lib.hid hq; have HE := Lib.hid hE
  have HAPP := Lib.hid (codes_app ps qs); have HBL := Lib.hid hbl
  clear h h2 hp hq hE hpl hql hbz hbl
  unfold CRes at HCX HCZ
  unfold BRes at HCB
  generalize enc (codes ps) = X at *
  generalize enc (codes qs) = Z at *
  generalize enc (codes (ps ++ qs)) = B at *
  have HB0 := Lib.hid (Below.refl w.heap.size w)
  go_enter Tryz.func8, Tryz.ntmps8
  go_wp2_with fail
  refine (PV_arg _ (.slice v0 ps.length vc) ps true (HP0.out.below HB0.out) (by have := HLp.out; omega) HZP.out (by simp [HVP.out])).mono ?_
  rintro e w1 ⟨rfl, h1⟩
  have HB1 := Lib.hid (HB0.out.trans (h1.mono HB0.out.size))
  clear h1
  go_wp2_with fail
  refine (PV_arg _ (.slice u0 qs.length uc) qs true (HQ0.out.below HB1.out) (by have := HLq.out; omega) HZQ.out (by simp [HVQ.out])).mono ?_
  rintro e w2 ⟨rfl, h2⟩
  have HB2 := Lib.hid (HB1.out.trans (h2.mono HB1.out.size))
  clear h2
  go_wp2_with fail
  refine (Twin_arg _ (.slice v0 ps.length vc) ps (HP0.out.below HB2.out) HLP.out).mono ?_
  rintro e w3 ⟨t3, rfl, ho3, h3⟩
  have HT_3 := Lib.hid (own_base ho3 HB2.out.size)
  clear ho3
  have HB3 := Lib.hid (HB2.out.trans (h3.mono HB2.out.size))
  clear h3
  go_wp2_with (at_builtin; refine wpList_append_prog rfl _ _ rfl w.heap.size t3 _ ps.length ps qs rfl HT_3.out rfl (HQ0.out.below HB3.out) HLB.out HB3.out.size ?_; intro b4 w4 hown hgrow)
  have HBO_4 := Lib.hid (own_prog hown).2.1
  have HB4 := Lib.hid (app_below2 HB3.out HB3.out.size HT_3.out hgrow)
  clear hown hgrow
  go_wp2_with fail
  refine (Twin_arg _ (.slice v0 ps.length vc) ps (HP0.out.below HB4.out) HLP.out).mono ?_
  rintro e w5 ⟨t5, rfl, ho5, h5⟩
  have HT_5 := Lib.hid (own_base ho5 HB4.out.size)
  clear ho5
  have HBO_5 := Lib.hid (HBO_4.out.below h5)
  have HB5 := Lib.hid (HB4.out.trans (h5.mono HB4.out.size))
  clear h5
  go_wp2_with fail
  refine (HCX.out _ t5 (own_prog HT_5.out).2.1).mono ?_
  rintro e w6 ⟨⟨hx, rfl⟩ | ⟨hx, rfl⟩, h6⟩
  · have HX := Lib.hid hx; clear hx
    have HBO_6 := Lib.hid (HBO_5.out.below h6)
    have HB6 := Lib.hid (HB5.out.trans (h6.mono HB5.out.size))
    clear h6
    go_wp2_with fail
    refine (Twin_arg _ (.slice u0 qs.length uc) qs (HQ0.out.below HB6.out) HLQ.out).mono ?_
    rintro e w7 ⟨t7, rfl, ho7, h7⟩
    have HT_7 := Lib.hid (own_base ho7 HB6.out.size)
    clear ho7
    have HBO_7 := Lib.hid (HBO_6.out.below h7)
    have HB7 := Lib.hid (HB6.out.trans (h7.mono HB6.out.size))
    clear h7
    go_wp2_with fail
    refine (HCZ.out _ t7 (own_prog HT_7.out).2.1).mono ?_
    rintro e w8 ⟨⟨hz, rfl⟩ | ⟨hz, rfl⟩, h8⟩
    · have HZ := Lib.hid hz; clear hz
      have HBO_8 := Lib.hid (HBO_7.out.below h8)
      have HB8 := Lib.hid (HB7.out.trans (h8.mono HB7.out.size))
      clear h8
      go_wp2_with fail
      refine (HCB.out _ b4 HBO_8.out).mono ?_
      rintro e w9 ⟨⟨hb, rfl⟩ | rfl | ⟨hb, rfl⟩, h9⟩
      · have HBB := Lib.hid hb; clear hb
        have HBO_9 := Lib.hid (HBO_8.out.below h9)
        have HB9 := Lib.hid (HB8.out.trans (h9.mono HB8.out.size))
        clear h9
        go_wp2_with fail
        refine (HIX.out HX.out _).mono ?_
        rintro e w10 ⟨aIA, cIA, baseIA, rfl, ho, h10⟩
        have HB10 := Lib.hid (HB9.out.trans (h10.mono HB9.out.size))
        clear h10
        have HIA_10 := Lib.hid ho; clear ho
        go_wp2_with fail
        refine (HIZ.out HZ.out _).mono ?_
        rintro e w11 ⟨aIB, cIB, baseIB, rfl, ho, h11⟩
        have HIA_11 := Lib.hid (own_below HIA_10.out h11)
        have HB11 := Lib.hid (HB10.out.trans (h11.mono HB10.out.size))
        clear h11
        have HIB_11 := Lib.hid ho; clear ho
        go_wp2_with fail
        refine (HIB.out HX.out HZ.out HBB.out _).mono ?_
        rintro e w12 ⟨aIC, cIC, baseIC, rfl, ho, h12⟩
        have HIA_12 := Lib.hid (own_below HIA_11.out h12)
        have HIB_12 := Lib.hid (own_below HIB_11.out h12)
        have HB12 := Lib.hid (HB11.out.trans (h12.mono HB11.out.size))
        clear h12
        have HIC_12 := Lib.hid ho; clear ho
        have HO := Lib.hid (World.ownsRow_lit (e := 9) (size := 1) (base := w12.heap.size) w12 #[] 0 (Nat.le_refl _) (by unfold maxLen; omega) rfl)
        have HA1 := Lib.hid (HIA_12.out.alloc (.cells #[] 9))
        have HA2 := Lib.hid (HIB_12.out.alloc (.cells #[] 9))
        have hBa : Below w12.heap.size w12 (w12.alloc (.cells #[] 9)) := (Below.refl _ _).alloc (Nat.le_refl _) _
        have HBa := Lib.hid hBa; clear hBa
        go_wp2_with (first
          | (at_builtin; refine wpList_unguard (by rfl) ?_; refine wpList_append_strs rfl _ _ rfl w12.heap.size _ _ 0 ps.length baseIA [] (codes ps) rfl HO.out rfl HA1.out (by have := HLp.out; omega) HBa.out.size ?_; intro d1 v1 hown1 hgrow1; have HB1' := Lib.hid (app_below2 HBa.out HBa.out.size HO.out hgrow1); have HO1 := Lib.hid hown1; have HA3 := Lib.hid (own_below HIB_12.out HB1'.out); clear hown1 hgrow1)
          | (at_builtin; refine wpList_unguard (by rfl) ?_; refine wpList_append_strs rfl _ _ rfl w12.heap.size _ _ (0 + ps.length) qs.length baseIB ([] ++ codes ps) (codes qs) rfl HO1.out rfl HA3.out (by have := HLp.out; have := HLq.out; omega) HB1'.out.size ?_; intro d2 v2 hown2 hgrow2; have HB2' := Lib.hid (app_below2 HB1'.out HB1'.out.size HO1.out hgrow2); have HO2 := Lib.hid hown2; clear hown2 hgrow2))
        have HC2 := Lib.hid (arg_own (own_below HIC_12.out HB2'.out))
        have HIA2 := Lib.hid (own_below HIA_12.out HB2'.out)
        have HD2 : Hid (ArgS v2 d2 (codes (ps ++ qs))) := Lib.hid (by rw [HAPP.out]; exact arg_own HO2.out)
        have HB3' := Lib.hid (HB12.out.trans (HB2'.out.mono HB12.out.size))
        clear HO HA1 HA2 HBa HB1' HO1 HA3 HO2
        refine (Same_arg _ _ _ (codes (ps ++ qs)) HC2.out HD2.out (by rw [codes_len]; exact HL.out)).mono ?_
        rintro e wS ⟨rfl, hS⟩
        have HIAS := Lib.hid (own_below HIA2.out hS)
        have HBS := Lib.hid (HB3'.out.trans (hS.mono HB3'.out.size))
        clear hS HC2 HD2 HIA2
        have hBS0 : Below w.heap.size w wS := HBS.out
        go_wp2_with fail
        go_loopw [18] (fun i wr => ∃ k : Nat, k ≤ ps.length ∧ i = .int .i64 k ∧ Hid (Below wS.heap.size wS wr) ∧ Below w.heap.size w wr) (fun i _ => ps.length - (intOf i).toNat)
        case atStart => exact ⟨0, Nat.zero_le _, rfl, Lib.hid (Below.refl _ _), hBS0⟩
        case round =>
          clear hBS0
          obtain ⟨k, hk, rfl, HW, hb⟩ := hrel
          by_cases hlt : k < ps.length
          · have hk1 : (k : Int) < (ps.length : Int) := by omega
            obtain ⟨x, hx⟩ := get_at (ps := ps) (k := k) hlt
            obtain ⟨b1, off, cap1, e1, hc⟩ : ∃ b1 off cap1, Value.slice v0 ps.length vc = .slice (some ⟨b1, off, none⟩) ps.length cap1 ∧ ProgAt w b1 off ps := by
              rcases HP0.out with ⟨h0, _⟩ | ⟨_, b1, off, cap1, e1, hc⟩
              · rw [h0] at hlt; exact absurd hlt (Nat.not_lt_zero _)
              · exact ⟨b1, off, cap1, e1, hc⟩
            simp only [Value.slice.injEq, true_and] at e1
            obtain ⟨rfl, rfl⟩ := e1
            obtain ⟨a0, a1, a2, a3, a4⟩ := hc.2 k x hx
            have k0 := (hb.cell (p := ⟨b1, off + k * 5, none⟩) hc.1).trans a0
            have k1 := (hb.cell (p := ⟨b1, off + k * 5 + 1, none⟩) hc.1).trans a1
            have k2 := (hb.cell (p := ⟨b1, off + k * 5 + 2, none⟩) hc.1).trans a2
            have k3 := (hb.cell (p := ⟨b1, off + k * 5 + 3, none⟩) hc.1).trans a3
            have k4 := (hb.cell (p := ⟨b1, off + k * 5 + 4, none⟩) hc.1).trans a4
            have hownA := own_below HIAS.out HW.out
            obtain ⟨g, e2⟩ : ∃ g, aIA = some ⟨g, 0, none⟩ := by
              rcases hownA.2 with ⟨_, h0⟩ | ⟨g, cap, cur, e2, _⟩
              · rw [h0] at hlt; exact absurd hlt (Nat.not_lt_zero _)
              · simp only [Value.slice.injEq] at e2; exact ⟨g, e2.1⟩
            subst e2
            have ca : wr.cell? ⟨g, k, none⟩ = some (.string (S (codeOf x))) := by rw [hownA.cellAt k (by omega)]; simp [strsV, codes, hx]
            have HR : Hid (right x k ps.length = true) := Lib.hid (HVP.out.2.2 k x hx)
            have HBr := Lib.hid hb
            have HLT := Lib.hid hlt
            have hblt : b1 < wr.heap.size := Nat.lt_of_lt_of_le hc.1 hb.size
            have hglt : g < wr.heap.size := (hownA.lt g rfl).2
            have HCO : Hid (∀ W, Calls Tryz.prog 27 #[.agg #[.int .i64 x.op, .int .i64 x.a, .int .i64 x.b, .int .i64 x.c, .string (S x.tree)]] W fun e w' => e = .returned (.string (S (codeOf x))) ∧ Below W.heap.size W w') := Lib.hid (fun W => CodeOf_any x k ps.length W HR.out (by omega) (by have := HLp.out; omega) (by have := HLp.out; omega))
            clear hx a0 a1 a2 a3 a4 hownA hc hb
            go_wp2_with fail
            go_region_held3 (fun w' => w'.cell? ⟨g, k, none⟩ = some (.string (S (codeOf x))) ∧ w'.cell? ⟨b1, off + k * 5, none⟩ = some (.int .i64 x.op) ∧ w'.cell? ⟨b1, off + k * 5 + 1, none⟩ = some (.int .i64 x.a) ∧ w'.cell? ⟨b1, off + k * 5 + 2, none⟩ = some (.int .i64 x.b) ∧ w'.cell? ⟨b1, off + k * 5 + 3, none⟩ = some (.int .i64 x.c) ∧ w'.cell? ⟨b1, off + k * 5 + 4, none⟩ = some (.string (S x.tree)))
              (first | go_keep | exact keep6 hc (by exact hglt) (by exact hblt) (by assumption) | assumption)
              (first | (go_at_call 27; (with_reducible refine (HCO.out _).mono ?_); rintro e wc ⟨rfl, hc⟩))
            have hc' := ((Below.refl _ wr).drew).trans hc
            have HWc := Lib.hid (HW.out.trans (hc'.mono HW.out.size))
            have HBc := Lib.hid (HBr.out.trans (hc'.mono HBr.out.size))
            clear hc hc'
            have hkb : k < 4000 := by have := HLp.out; have := HLT.out; omega
            go_wp2_with fail
            go_roundw
            case rel => exact ⟨k + 1, HLT.out, by go_num, HWc, HBc.out⟩
            case measure => have := HLT.out; simp [intOf]; omega
          · obtain ⟨hkn⟩ : Nonempty (k = ps.length) := ⟨by omega⟩
            have hk2 : ¬ (k : Int) < (ps.length : Int) := by omega
            have HBr := Lib.hid hb
            clear hb hkn
            go_wp2_with fail
            refine (awake2_any _ (HE.out.below HBr.out)).mono ?_
            rintro e we ⟨rfl, he⟩
            have HBe := Lib.hid (HBr.out.trans (he.mono HBr.out.size))
            clear he
            go_wp2_with fail
            go_ret
            exact ⟨rfl, HBe.out⟩
      · skip
        have HBO_9 := Lib.hid (HBO_8.out.below h9)
        have HB9 := Lib.hid (HB8.out.trans (h9.mono HB8.out.size))
        clear h9
        go_wp2_with fail
        refine (awake2_any _ (HE.out.below HB9.out)).mono ?_
        rintro e w15 ⟨rfl, h15⟩
        have HB15 := Lib.hid (HB9.out.trans (h15.mono HB9.out.size))
        clear h15
        go_wp2_with fail
        go_ret
        exact ⟨rfl, HB15.out⟩
      · have HBB := Lib.hid hb; clear hb
        have HBO_9 := Lib.hid (HBO_8.out.below h9)
        have HB9 := Lib.hid (HB8.out.trans (h9.mono HB8.out.size))
        clear h9
        go_wp2_with fail
        refine (PV_arg _ b4 (ps ++ qs) false HBO_9.out HL.out HZB.out (by simp [HBB.out])).mono ?_
        rintro e w16 ⟨rfl, h16⟩
        have HBO_16 := Lib.hid (HBO_9.out.below h16)
        have HB16 := Lib.hid (HB9.out.trans (h16.mono HB9.out.size))
        clear h16
        go_wp2_with fail
        refine (awake2_any _ (HE.out.below HB16.out)).mono ?_
        rintro e w17 ⟨rfl, h17⟩
        have HB17 := Lib.hid (HB16.out.trans (h17.mono HB16.out.size))
        clear h17
        go_wp2_with fail
        go_ret
        exact ⟨rfl, HB17.out⟩
    · have HZ := Lib.hid hz; clear hz
      have HBO_8 := Lib.hid (HBO_7.out.below h8)
      have HB8 := Lib.hid (HB7.out.trans (h8.mono HB7.out.size))
      clear h8
      go_wp2_with fail
      refine (HCB.out _ b4 HBO_8.out).mono ?_
      rintro e w18 ⟨⟨hb, rfl⟩ | rfl | ⟨hb, rfl⟩, h18⟩
      · have HBB := Lib.hid hb; clear hb
        have HBO_18 := Lib.hid (HBO_8.out.below h18)
        have HB18 := Lib.hid (HB8.out.trans (h18.mono HB8.out.size))
        clear h18
        go_wp2_with fail
        refine (awake2_any _ (HE.out.below HB18.out)).mono ?_
        rintro e w19 ⟨rfl, h19⟩
        have HB19 := Lib.hid (HB18.out.trans (h19.mono HB18.out.size))
        clear h19
        go_wp2_with fail
        go_ret
        exact ⟨rfl, HB19.out⟩
      · skip
        have HBO_18 := Lib.hid (HBO_8.out.below h18)
        have HB18 := Lib.hid (HB8.out.trans (h18.mono HB8.out.size))
        clear h18
        go_wp2_with fail
        refine (awake2_any _ (HE.out.below HB18.out)).mono ?_
        rintro e w20 ⟨rfl, h20⟩
        have HB20 := Lib.hid (HB18.out.trans (h20.mono HB18.out.size))
        clear h20
        go_wp2_with fail
        go_ret
        exact ⟨rfl, HB20.out⟩
      · have HBB := Lib.hid hb; clear hb
        have HBO_18 := Lib.hid (HBO_8.out.below h18)
        have HB18 := Lib.hid (HB8.out.trans (h18.mono HB8.out.size))
        clear h18
        go_wp2_with fail
        refine (PV_arg _ b4 (ps ++ qs) false HBO_18.out HL.out HZB.out (by simp [HBB.out])).mono ?_
        rintro e w21 ⟨rfl, h21⟩
        have HBO_21 := Lib.hid (HBO_18.out.below h21)
        have HB21 := Lib.hid (HB18.out.trans (h21.mono HB18.out.size))
        clear h21
        go_wp2_with fail
        refine (awake2_any _ (HE.out.below HB21.out)).mono ?_
        rintro e w22 ⟨rfl, h22⟩
        have HB22 := Lib.hid (HB21.out.trans (h22.mono HB21.out.size))
        clear h22
        go_wp2_with fail
        go_ret
        exact ⟨rfl, HB22.out⟩
  · have HX := Lib.hid hx; clear hx
    have HBO_6 := Lib.hid (HBO_5.out.below h6)
    have HB6 := Lib.hid (HB5.out.trans (h6.mono HB5.out.size))
    clear h6
    go_wp2_with fail
    refine (Twin_arg _ (.slice u0 qs.length uc) qs (HQ0.out.below HB6.out) HLQ.out).mono ?_
    rintro e w23 ⟨t23, rfl, ho23, h23⟩
    have HT_23 := Lib.hid (own_base ho23 HB6.out.size)
    clear ho23
    have HBO_23 := Lib.hid (HBO_6.out.below h23)
    have HB23 := Lib.hid (HB6.out.trans (h23.mono HB6.out.size))
    clear h23
    go_wp2_with fail
    refine (HCZ.out _ t23 (own_prog HT_23.out).2.1).mono ?_
    rintro e w24 ⟨⟨hz, rfl⟩ | ⟨hz, rfl⟩, h24⟩
    · have HZ := Lib.hid hz; clear hz
      have HBO_24 := Lib.hid (HBO_23.out.below h24)
      have HB24 := Lib.hid (HB23.out.trans (h24.mono HB23.out.size))
      clear h24
      go_wp2_with fail
      refine (HCB.out _ b4 HBO_24.out).mono ?_
      rintro e w25 ⟨⟨hb, rfl⟩ | rfl | ⟨hb, rfl⟩, h25⟩
      · have HBB := Lib.hid hb; clear hb
        have HBO_25 := Lib.hid (HBO_24.out.below h25)
        have HB25 := Lib.hid (HB24.out.trans (h25.mono HB24.out.size))
        clear h25
        go_wp2_with fail
        refine (awake2_any _ (HE.out.below HB25.out)).mono ?_
        rintro e w26 ⟨rfl, h26⟩
        have HB26 := Lib.hid (HB25.out.trans (h26.mono HB25.out.size))
        clear h26
        go_wp2_with fail
        go_ret
        exact ⟨rfl, HB26.out⟩
      · skip
        have HBO_25 := Lib.hid (HBO_24.out.below h25)
        have HB25 := Lib.hid (HB24.out.trans (h25.mono HB24.out.size))
        clear h25
        go_wp2_with fail
        refine (awake2_any _ (HE.out.below HB25.out)).mono ?_
        rintro e w27 ⟨rfl, h27⟩
        have HB27 := Lib.hid (HB25.out.trans (h27.mono HB25.out.size))
        clear h27
        go_wp2_with fail
        go_ret
        exact ⟨rfl, HB27.out⟩
      · have HBB := Lib.hid hb; clear hb
        have HBO_25 := Lib.hid (HBO_24.out.below h25)
        have HB25 := Lib.hid (HB24.out.trans (h25.mono HB24.out.size))
        clear h25
        go_wp2_with fail
        refine (PV_arg _ b4 (ps ++ qs) false HBO_25.out HL.out HZB.out (by simp [HBB.out])).mono ?_
        rintro e w28 ⟨rfl, h28⟩
        have HBO_28 := Lib.hid (HBO_25.out.below h28)
        have HB28 := Lib.hid (HB25.out.trans (h28.mono HB25.out.size))
        clear h28
        go_wp2_with fail
        refine (awake2_any _ (HE.out.below HB28.out)).mono ?_
        rintro e w29 ⟨rfl, h29⟩
        have HB29 := Lib.hid (HB28.out.trans (h29.mono HB28.out.size))
        clear h29
        go_wp2_with fail
        go_ret
        exact ⟨rfl, HB29.out⟩
    · have HZ := Lib.hid hz; clear hz
      have HBO_24 := Lib.hid (HBO_23.out.below h24)
      have HB24 := Lib.hid (HB23.out.trans (h24.mono HB23.out.size))
      clear h24
      go_wp2_with fail
      refine (HCB.out _ b4 HBO_24.out).mono ?_
      rintro e w30 ⟨⟨hb, rfl⟩ | rfl | ⟨hb, rfl⟩, h30⟩
      · have HBB := Lib.hid hb; clear hb
        have HBO_30 := Lib.hid (HBO_24.out.below h30)
        have HB30 := Lib.hid (HB24.out.trans (h30.mono HB24.out.size))
        clear h30
        go_wp2_with fail
        refine (awake2_any _ (HE.out.below HB30.out)).mono ?_
        rintro e w31 ⟨rfl, h31⟩
        have HB31 := Lib.hid (HB30.out.trans (h31.mono HB30.out.size))
        clear h31
        go_wp2_with fail
        go_ret
        exact ⟨rfl, HB31.out⟩
      · skip
        have HBO_30 := Lib.hid (HBO_24.out.below h30)
        have HB30 := Lib.hid (HB24.out.trans (h30.mono HB24.out.size))
        clear h30
        go_wp2_with fail
        refine (awake2_any _ (HE.out.below HB30.out)).mono ?_
        rintro e w32 ⟨rfl, h32⟩
        have HB32 := Lib.hid (HB30.out.trans (h32.mono HB30.out.size))
        clear h32
        go_wp2_with fail
        go_ret
        exact ⟨rfl, HB32.out⟩
      · have HBB := Lib.hid hb; clear hb
        have HBO_30 := Lib.hid (HBO_24.out.below h30)
        have HB30 := Lib.hid (HB24.out.trans (h30.mono HB24.out.size))
        clear h30
        go_wp2_with fail
        refine (PV_arg _ b4 (ps ++ qs) false HBO_30.out HL.out HZB.out (by simp [HBB.out])).mono ?_
        rintro e w33 ⟨rfl, h33⟩
        have HBO_33 := Lib.hid (HBO_30.out.below h33)
        have HB33 := Lib.hid (HB30.out.trans (h33.mono HB30.out.size))
        clear h33
        go_wp2_with fail
        refine (awake2_any _ (HE.out.below HB33.out)).mono ?_
        rintro e w34 ⟨rfl, h34⟩
        have HB34 := Lib.hid (HB33.out.trans (h34.mono HB33.out.size))
        clear h34
        go_wp2_with fail
        go_ret
        exact ⟨rfl, HB34.out⟩
set_option maxHeartbeats 3200000 in
set_option maxRecDepth 100000 in
theorem parts_one (w : World) (v u : Value) (ps : List Ins) (h : ArgP w v ps) (hl : ps.length * 48 ≤ 140737488351232) (hz : ∀ y ∈ ps, y.tree.length ≤ 140737488351232) (hp : ¬ PValid ps) (hE : Env w) :
    Calls Tryz.prog 8 #[v, u] w fun e w' => e = .returned (.bool true) ∧ Below w.heap.size w w' := by
  have HV := Lib.hid (PV_arg w v ps false h (by omega) (fun x hx => by have := hz x hx; omega) (by simp [hp]))
  have HE := Lib.hid hE
  clear h hl hz hp hE
  go_enter Tryz.func8, Tryz.ntmps8
  go_wp2_with fail
  refine HV.out.mono ?_
  rintro e w1 ⟨rfl, h1⟩
  have HB1 := Lib.hid h1; clear h1 HV
  go_wp2_with fail
  refine (awake2_any _ (HE.out.below HB1.out)).mono ?_
  rintro e w2 ⟨rfl, h2⟩
  have HB2 := Lib.hid (HB1.out.trans (h2.mono HB1.out.size)); clear h2
  go_wp2_with fail
  go_ret
  exact ⟨rfl, HB2.out⟩
set_option maxHeartbeats 3200000 in
set_option maxRecDepth 100000 in
theorem parts_two (w : World) (v u : Value) (ps qs : List Ins) (h : ArgP w v ps) (h2 : ArgP w u qs) (hl : qs.length * 48 ≤ 140737488351232) (hz : ∀ y ∈ qs, y.tree.length ≤ 140737488351232) (hp : PValid ps) (hq : ¬ PValid qs) (hE : Env w) :
    Calls Tryz.prog 8 #[v, u] w fun e w' => e = .returned (.bool true) ∧ Below w.heap.size w w' := by
  have HV := Lib.hid (PV_arg w v ps true h (by have := hp.1; omega) (fun x hx => by have := tree_le x hx; have := hp.2.1; omega) (by simp [hp]))
  have HU := Lib.hid (fun W hW => PV_arg W u qs false hW (by omega) (fun x hx => by have := hz x hx; omega) (by simp [hq]))
  have HE := Lib.hid hE; have HA := Lib.hid h2
  clear h h2 hl hz hp hq hE
  go_enter Tryz.func8, Tryz.ntmps8
  go_wp2_with fail
  refine HV.out.mono ?_
  rintro e w1 ⟨rfl, h1⟩
  have HB1 := Lib.hid h1; have HA1 := Lib.hid (HA.out.below h1); clear h1 HV HA
  go_wp2_with fail
  refine (HU.out _ HA1.out).mono ?_
  rintro e w2 ⟨rfl, h2⟩
  have HB2 := Lib.hid (HB1.out.trans (h2.mono HB1.out.size)); clear h2 HU
  go_wp2_with fail
  refine (awake2_any _ (HE.out.below HB2.out)).mono ?_
  rintro e w3 ⟨rfl, h3⟩
  have HB3 := Lib.hid (HB2.out.trans (h3.mono HB2.out.size)); clear h3
  go_wp2_with fail
  go_ret
  exact ⟨rfl, HB3.out⟩
theorem parts_yes (w : World) (v u : Value) (ps qs : List Ins) (h : ArgP w v ps) (h2 : ArgP w u qs) (hl : ps.length * 48 ≤ 140737488351232) (hl2 : qs.length * 48 ≤ 140737488351232) (hz : ∀ y ∈ ps, y.tree.length ≤ 140737488351232) (hz2 : ∀ y ∈ qs, y.tree.length ≤ 140737488351232) (hE : Env w) :
    Calls Tryz.prog 8 #[v, u] w fun e w' => e = .returned (.bool true) ∧ Below w.heap.size w w' := by
  by_cases hp : PValid ps
  · by_cases hq : PValid qs
    · obtain ⟨v0, vc, rfl⟩ := argP_form h
      obtain ⟨u0, uc, rfl⟩ := argP_form h2
      exact parts_good w v0 u0 vc uc ps qs h h2 hp hq hE
    · exact parts_two w v u ps qs h h2 hl2 hz2 hp hq hE
  · exact parts_one w v u ps h hl hz hp hE
end Go.Proofs.YtlfoigkpfooopaaGreatDoor

namespace Go.Proofs.YtlfoigkpfooopaaGreatDoor.codeParts
open Go.ChangeShapes Go.WideShapes Go.ChangeAt Go.RowKit

theorem own : ownKnob Tryz.prog.godebug = none := by kernel_rfl
theorem laidOut : laidOutB Tryz.prog = true := by kernel_rfl

set_option maxRecDepth 100000 in
theorem lifted (os : Os) (started : os.Started) (H : Type) (enc : TypeId × Value → H) :
    ReturnsInHanded {} Tryz.checked os 8 .any (fun w args => (Rows.codePartsSpec.pre enc Tryz.prog Tryz.f8 Rows.codePartsRow.domain false w args ∧ laidMetH Tryz.prog laid7 w) ∧ sizedMet enc Tryz.prog Tryz.f8 (OpenSpec.ofChange Rows.codePartsSpec) false w args)
      (Rows.codePartsSpec.post enc Tryz.prog Tryz.f8 false true false false) := by
  refine returnsInHanded_and_shaped (C := Tryz.checked) (X := fun w _ => laidMetH Tryz.prog laid7 w) (fun _ _ _ hh h => h.of_heap hh) own started (by kernel_rfl) Tryz.func8
    (ChangeSpec.witness_shaped (enc := enc) (C := Tryz.checked) (os := os) (X := fun w _ => laidMetH Tryz.prog laid7 w) false (laidWorld os) #[.slice none 0 0, .slice none 0 0] 8 rfl (World.shaped_of_RefB (by kernel_rfl) (by kernel_rfl)) (by kernel_rfl) (by kernel_rfl) (by kernel_rfl) (laid_met os _)) ?_
  intro W base args ds gs before hval0 hW _ hsz0 hL hsh _
  have hsz : (DataW.weightsEach Tryz.prog (Tryz.f8.params.toList ++ Rows.codePartsSpec.plain.varTypes Tryz.prog) (ds ++ gs)).all (· ≤ reachBytes) = true := hsz0
  clear hsz0
  have hval : ∀ (j : Nat) t v, Tryz.f8.params[j]? = some t → args[j]? = some v → Value.okWide Tryz.prog W .any base t v := hval0
  have hW' := hW
  obtain ⟨p, q, hA0, hV, rfl, _, _⟩ := hW
  have hA : DataW.TrodAll enc Tryz.prog W 0 (fun _ => true) true Tryz.f8.params.toList args.toList ds p := hA0
  rw [Tryz.params8] at hA hval hsz
  obtain ⟨v0, v1, d0, d1, p0, p1, rfl, rfl, rfl, h0, h1⟩ := trodAll_two hA
  obtain ⟨rfl, rfl⟩ := trodVars_none hV
  obtain ⟨a0, len, cap, rfl⟩ := okWide_slice Tryz.underlying23 (hval 0 23 v0 rfl rfl)
  obtain ⟨a1, len1, cap1, rfl⟩ := okWide_slice Tryz.underlying23 (hval 1 23 v1 rfl rfl)
  have h0k := h0
  have h1k := h1
  obtain ⟨fuel, hf⟩ := h0
  obtain ⟨fuel1, hf1⟩ := h1
  clear hA0 hval0
  simp only [List.append_nil] at hW'
  have hlt0 : ∀ x ∈ p0, x.block < W.heap.size := fun x hx => hW'.lt x (by simp [hx])
  have hlt1 : ∀ x ∈ p1, x.block < W.heap.size := fun x hx => hW'.lt x (by simp [hx])
  obtain ⟨ps, hl, ha, hz⟩ := open_prog hf hlt0 (fun n hn => by
    have := of_decide_eq_true (List.all_eq_true.1 hsz n (DataW.weights_mem_each (j := 0) rfl rfl n hn))
    simpa [reachBytes] using this)
  obtain ⟨qs, hl1, ha1, hz1⟩ := open_prog hf1 hlt1 (fun n hn => by
    have := of_decide_eq_true (List.all_eq_true.1 hsz n (DataW.weights_mem_each (j := 1) rfl rfl n hn))
    simpa [reachBytes] using this)
  refine (parts_yes W _ _ ps qs ha ha1 hl hl1 hz hz1 (env_of_laid hL hsh)).mono fun e W' ⟨he, hnx⟩ => ⟨_, he, ?_⟩
  refine ⟨_, _, _, [] ++ [], p0 ++ p1, [], hW', ?_, ?_, rfl, hnx.frame _, fun h => by cases h⟩
  · exact trodAll_mk1 (shut_bool Tryz.underlying4 _)
  · exact trodAll_mk2 (Below.trod laidOut (by kernel_rfl) (of_decide_eq_true (by kernel_rfl)) h0k hnx hlt0) (Below.trod laidOut (by kernel_rfl) (of_decide_eq_true (by kernel_rfl)) h1k hnx hlt1)

theorem row_holds : Rows.CodePartsSaid :=
  OpenClaim.holds_of_wide 8 Tryz.f8 rfl rfl rfl rfl rfl rfl rfl ⟨rfl, rfl, rfl, rfl, rfl⟩ rfl rfl rfl rfl rfl (by kernel_rfl) Tryz.func8 (by kernel_rfl)
    (of_decide_eq_true (by kernel_rfl)) (by unfold Func.isWrapper; first | (rw [if_pos (by decide +kernel)]; kernel_rfl) | (rw [if_neg (by decide +kernel)]; exact ⟨rfl, rfl⟩))
    (fun os started H enc _ => lifted os started H enc)
theorem holds : Rows.CodePartsCardSaid :=
  Claim7.holds_tied_plain_at .later [] [.data, .data, .data, .data, .sentinel, .sentinel, .pinned] true Rows.codePartsCard.stood.harness true
    row_holds (fun _ h => by cases h) (by kernel_rfl) (fun _ h => by cases h) codeParts_row_tie rfl ⟨rfl, rfl⟩ (by kernel_rfl) rfl
    (fun f fn hf hfn => by
      obtain rfl : f = 8 := Option.some.inj ((show Tryz.prog.funcNamed "narcissus/narcissuslaw02.CodeParts" = some 8 by kernel_rfl).symm.trans hf) |>.symm
      obtain rfl : fn = Tryz.f8 := (Option.some.inj (Tryz.func8.symm.trans hfn)).symm
      exact ⟨by kernel_rfl, fun j t ht => by
        rw [Tryz.params8] at ht
        have h3 : t = 23 := by
          rcases j with _ | _ | j
          · simpa using ht.symm
          · simp at ht; exact ht.symm
          · simp at ht
        subst h3
        exact (show Tryz.prog.wantsStandIn 23 = false by kernel_rfl)⟩)
    (by kernel_rfl)
end Go.Proofs.YtlfoigkpfooopaaGreatDoor.codeParts
