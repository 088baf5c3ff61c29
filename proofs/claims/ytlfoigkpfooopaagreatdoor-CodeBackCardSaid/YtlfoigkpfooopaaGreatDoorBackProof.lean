/- CodeBack, for every two programs: Decode of Code is the program, and Parse of Text is the program; programs with the same code are equal: the law returns true, and its arguments read as they did. No condition beyond the row's own. By an AI agent. -/
import Derived.Test.YtlfoigkpfooopaaGreatDoorDecodes
import Derived.Test.YtlfoigkpfooopaaGreatDoorOpenP
import Derived.Test.YtlfoigkpfooopaaGreatDoorCards
import Derived.Test.YtlfoigkpfooopaaGreatDoorTie
import Derived.SevenTiedAt
namespace Go.Proofs.YtlfoigkpfooopaaGreatDoor
open Go.RowKit Pl

theorem Decode_back (ps : List Ins) (w : World) (hp : PValid ps) (hl : (enc (codes ps)).length ≤ 2000000) (hE : Env w) :
    Calls Tryz.prog 20 #[.string (S (enc (codes ps)))] w fun e w' => ∃ v, e = .returned (.tuple #[v, .int .i64 0]) ∧ ArgP w' v ps ∧ Below w.heap.size w w' := by
  have e : (S (enc (codes ps))).data.toList = enc (codes ps) := by simp
  exact Decode_hit (S (enc (codes ps))) ps w (by rw [S_size]; omega) hE (by rw [e]; exact vld_enc (codes_vld hp hl) hl) hp e.symm
theorem Parse_back (ps : List Ins) (w : World) (hp : PValid ps) (hl : (txt ps).length ≤ 4000000) (hE : Env w) :
    Calls Tryz.prog 23 #[.string (S (txt ps))] w fun e w' => ∃ v, e = .returned (.tuple #[v, .int .i64 0]) ∧ ArgP w' v ps ∧ Below w.heap.size w w' := by
  have e : (S (txt ps)).data.toList = txt ps := by simp
  refine (Parse_gen (S (txt ps)) w (by rw [S_size]; omega) hE).mono fun e' w' ⟨h1, h2⟩ => ?_
  rw [e] at h1
  rcases h1 with ⟨qs, v, hq, hqe, _, e1, h3⟩ | ⟨h1 | h1, _⟩
  · obtain rfl : ps = qs := txt_inj hp hq hqe.symm
    exact ⟨v, e1, h3, h2⟩
  · rw [S_size] at h1; omega
  · exact absurd rfl (h1 ps hp)

set_option maxHeartbeats 6400000 in
set_option maxRecDepth 100000 in
theorem back_good (w : World) (v u : Value) (ps qs : List Ins) (h : ArgP w v ps) (h2 : ArgP w u qs) (hp : PValid ps) (hq : PValid qs) (hE : Env w) :
    Calls Tryz.prog 6 #[v, u] w fun e w' => e = .returned (.bool true) ∧ Below w.heap.size w w' := by
  have HD := Lib.hid (fun hl W hW => Decode_back ps W hp hl hW)
  have HR := Lib.hid (fun hl W hW => Parse_back ps W hp hl hW)
  have HCX := Lib.hid (fun W t hW => PCode_arg W t ps hW hp)
  have HCZ := Lib.hid (fun W t hW => PCode_arg W t qs hW hq)
  have HTX := Lib.hid (fun W t hW hE => PText_arg W t ps hW hp hE)
  have HNE := Lib.hid (fun (hl : (enc (codes ps)).length ≤ 2000000) (e : enc (codes ps) = enc (codes qs)) => code_inj hp hq hl e)
  have HEQ : Hid (ps = qs → enc (codes ps) = enc (codes qs)) := Lib.hid (fun e => by rw [e])
  have hpl := hp.1; have hql := hq.1
  have HL : Hid (ps.length ≤ 281474976710656) := Lib.hid (by omega)
  have HLP : Hid (ps.length * 48 ≤ 140737488355328) := Lib.hid (by omega)
  have HLQ : Hid (qs.length * 48 ≤ 140737488355328) := Lib.hid (by omega)
  have HLQ2 : Hid (qs.length ≤ 281474976710656) := Lib.hid (by omega)
  have HZP : Hid (∀ x ∈ ps, x.tree.length ≤ 281474976710656) := Lib.hid (fun x hx => by have := tree_le x hx; have := hp.2.1; omega)
  have HZQ : Hid (∀ x ∈ qs, x.tree.length ≤ 281474976710656) := Lib.hid (fun x hx => by have := tree_le x hx; have := hq.2.1; omega)
  have HP_0 := Lib.hid h; have HQ_0 := Lib.hid h2; have HVP := Lib.hid hp; have HVQ := Lib.hid hq; have HE := Lib.hid hE
  clear h h2 hp hq hE hpl hql
  unfold CRes at HCX HCZ
  unfold TRes at HTX
  generalize enc (codes ps) = X at *
  generalize enc (codes qs) = Z at *
  generalize txt ps = Y at *
  have HB0 := Lib.hid (Below.refl w.heap.size w)
  go_enter Tryz.func6, Tryz.ntmps6
  go_wp2_with fail
  refine (PV_arg _ v ps true HP_0.out HL.out HZP.out (by simp [HVP.out])).mono ?_
  rintro e w1 ⟨rfl, h1⟩
  have HP_1 := Lib.hid (HP_0.out.below h1)
  have HQ_1 := Lib.hid (HQ_0.out.below h1)
  have HB1 := Lib.hid (HB0.out.trans (h1.mono HB0.out.size))
  clear h1
  go_wp2_with fail
  refine (PV_arg _ u qs true HQ_1.out HLQ2.out HZQ.out (by simp [HVQ.out])).mono ?_
  rintro e w2 ⟨rfl, h2⟩
  have HP_2 := Lib.hid (HP_1.out.below h2)
  have HQ_2 := Lib.hid (HQ_1.out.below h2)
  have HB2 := Lib.hid (HB1.out.trans (h2.mono HB1.out.size))
  clear h2
  go_wp2_with fail
  refine (Twin_arg _ v ps HP_2.out HLP.out).mono ?_
  rintro e w3 ⟨t3, rfl, ho3, h3⟩
  have HT_3 := Lib.hid (own_prog ho3).2.1
  clear ho3
  have HP_3 := Lib.hid (HP_2.out.below h3)
  have HQ_3 := Lib.hid (HQ_2.out.below h3)
  have HB3 := Lib.hid (HB2.out.trans (h3.mono HB2.out.size))
  clear h3
  go_wp2_with fail
  refine (HCX.out _ t3 HT_3.out).mono ?_
  rintro e w4 ⟨⟨hx, rfl⟩ | ⟨hx, rfl⟩, h4⟩
  · have HX := Lib.hid hx; clear hx
    have HP_4 := Lib.hid (HP_3.out.below h4)
    have HQ_4 := Lib.hid (HQ_3.out.below h4)
    have HB4 := Lib.hid (HB3.out.trans (h4.mono HB3.out.size))
    clear h4
    go_wp2_with fail
    refine (Twin_arg _ u qs HQ_4.out HLQ.out).mono ?_
    rintro e w5 ⟨t5, rfl, ho5, h5⟩
    have HT_5 := Lib.hid (own_prog ho5).2.1
    clear ho5
    have HP_5 := Lib.hid (HP_4.out.below h5)
    have HQ_5 := Lib.hid (HQ_4.out.below h5)
    have HB5 := Lib.hid (HB4.out.trans (h5.mono HB4.out.size))
    clear h5
    go_wp2_with fail
    refine (HCZ.out _ t5 HT_5.out).mono ?_
    rintro e w6 ⟨⟨hz, rfl⟩ | ⟨hz, rfl⟩, h6⟩
    · clear hz
      have HP_6 := Lib.hid (HP_5.out.below h6)
      have HQ_6 := Lib.hid (HQ_5.out.below h6)
      have HB6 := Lib.hid (HB5.out.trans (h6.mono HB5.out.size))
      clear h6
      by_cases hpq : ps = qs
      · have hxz : (X == Z) = true := by simp [HEQ.out hpq]
        have HPQ := Lib.hid hpq; clear hpq
        go_wp2_with fail
        refine (PSame_arg _ v u ps qs true HP_6.out HQ_6.out HL.out (by simp [HPQ.out])).mono ?_
        rintro e w7 ⟨rfl, h7⟩
        have HP_7 := Lib.hid (HP_6.out.below h7)
        have HQ_7 := Lib.hid (HQ_6.out.below h7)
        have HB7 := Lib.hid (HB6.out.trans (h7.mono HB6.out.size))
        clear h7
        go_wp2_with fail
        refine (HD.out HX.out _ (HE.out.below HB7.out)).mono ?_
        rintro e w8 ⟨r8, rfl, ha8, h8⟩
        have HV_8 := Lib.hid ha8; clear ha8
        have HP_8 := Lib.hid (HP_7.out.below h8)
        have HQ_8 := Lib.hid (HQ_7.out.below h8)
        have HB8 := Lib.hid (HB7.out.trans (h8.mono HB7.out.size))
        clear h8
        go_wp2_with fail
        refine (PSame_arg _ r8 v ps ps true HV_8.out HP_8.out HL.out (by simp)).mono ?_
        rintro e w9 ⟨rfl, h9⟩
        have HP_9 := Lib.hid (HP_8.out.below h9)
        have HQ_9 := Lib.hid (HQ_8.out.below h9)
        have HB9 := Lib.hid (HB8.out.trans (h9.mono HB8.out.size))
        clear h9
        go_wp2_with fail
        refine (Twin_arg _ v ps HP_9.out HLP.out).mono ?_
        rintro e w10 ⟨t10, rfl, ho10, h10⟩
        have HT_10 := Lib.hid (own_prog ho10).2.1
        clear ho10
        have HP_10 := Lib.hid (HP_9.out.below h10)
        have HQ_10 := Lib.hid (HQ_9.out.below h10)
        have HB10 := Lib.hid (HB9.out.trans (h10.mono HB9.out.size))
        clear h10
        go_wp2_with fail
        refine (HTX.out _ t10 HT_10.out (HE.out.below HB10.out)).mono ?_
        rintro e w11 ⟨⟨hy, rfl⟩ | ⟨hy, rfl⟩, h11⟩
        · have HY := Lib.hid hy; clear hy
          have HP_11 := Lib.hid (HP_10.out.below h11)
          have HQ_11 := Lib.hid (HQ_10.out.below h11)
          have HB11 := Lib.hid (HB10.out.trans (h11.mono HB10.out.size))
          clear h11
          go_wp2_with fail
          refine (HR.out HY.out _ (HE.out.below HB11.out)).mono ?_
          rintro e w12 ⟨r12, rfl, ha12, h12⟩
          have HV_12 := Lib.hid ha12; clear ha12
          have HP_12 := Lib.hid (HP_11.out.below h12)
          have HQ_12 := Lib.hid (HQ_11.out.below h12)
          have HB12 := Lib.hid (HB11.out.trans (h12.mono HB11.out.size))
          clear h12
          go_wp2_with fail
          refine (PSame_arg _ r12 v ps ps true HV_12.out HP_12.out HL.out (by simp)).mono ?_
          rintro e w13 ⟨rfl, h13⟩
          have HP_13 := Lib.hid (HP_12.out.below h13)
          have HQ_13 := Lib.hid (HQ_12.out.below h13)
          have HB13 := Lib.hid (HB12.out.trans (h13.mono HB12.out.size))
          clear h13
          go_wp2_with fail
          refine (awake2_any _ (HE.out.below HB13.out)).mono ?_
          rintro e w14 ⟨rfl, h14⟩
          have HB14 := Lib.hid (HB13.out.trans (h14.mono HB13.out.size))
          clear h14
          go_wp2_with fail
          go_ret
          exact ⟨rfl, HB14.out⟩
        · clear hy
          have HP_11 := Lib.hid (HP_10.out.below h11)
          have HQ_11 := Lib.hid (HQ_10.out.below h11)
          have HB11 := Lib.hid (HB10.out.trans (h11.mono HB10.out.size))
          clear h11
          go_wp2_with fail
          refine (awake2_any _ (HE.out.below HB11.out)).mono ?_
          rintro e w15 ⟨rfl, h15⟩
          have HB15 := Lib.hid (HB11.out.trans (h15.mono HB11.out.size))
          clear h15
          go_wp2_with fail
          go_ret
          exact ⟨rfl, HB15.out⟩
      · have hxz : (X == Z) = false := by simp only [beq_eq_false_iff_ne]; exact fun e => hpq (HNE.out HX.out e)
        have HPQ := Lib.hid hpq; clear hpq
        go_wp2_with fail
        refine (PSame_arg _ v u ps qs false HP_6.out HQ_6.out HL.out (by simp [HPQ.out])).mono ?_
        rintro e w16 ⟨rfl, h16⟩
        have HP_16 := Lib.hid (HP_6.out.below h16)
        have HQ_16 := Lib.hid (HQ_6.out.below h16)
        have HB16 := Lib.hid (HB6.out.trans (h16.mono HB6.out.size))
        clear h16
        go_wp2_with fail
        refine (HD.out HX.out _ (HE.out.below HB16.out)).mono ?_
        rintro e w17 ⟨r17, rfl, ha17, h17⟩
        have HV_17 := Lib.hid ha17; clear ha17
        have HP_17 := Lib.hid (HP_16.out.below h17)
        have HQ_17 := Lib.hid (HQ_16.out.below h17)
        have HB17 := Lib.hid (HB16.out.trans (h17.mono HB16.out.size))
        clear h17
        go_wp2_with fail
        refine (PSame_arg _ r17 v ps ps true HV_17.out HP_17.out HL.out (by simp)).mono ?_
        rintro e w18 ⟨rfl, h18⟩
        have HP_18 := Lib.hid (HP_17.out.below h18)
        have HQ_18 := Lib.hid (HQ_17.out.below h18)
        have HB18 := Lib.hid (HB17.out.trans (h18.mono HB17.out.size))
        clear h18
        go_wp2_with fail
        refine (Twin_arg _ v ps HP_18.out HLP.out).mono ?_
        rintro e w19 ⟨t19, rfl, ho19, h19⟩
        have HT_19 := Lib.hid (own_prog ho19).2.1
        clear ho19
        have HP_19 := Lib.hid (HP_18.out.below h19)
        have HQ_19 := Lib.hid (HQ_18.out.below h19)
        have HB19 := Lib.hid (HB18.out.trans (h19.mono HB18.out.size))
        clear h19
        go_wp2_with fail
        refine (HTX.out _ t19 HT_19.out (HE.out.below HB19.out)).mono ?_
        rintro e w20 ⟨⟨hy, rfl⟩ | ⟨hy, rfl⟩, h20⟩
        · have HY := Lib.hid hy; clear hy
          have HP_20 := Lib.hid (HP_19.out.below h20)
          have HQ_20 := Lib.hid (HQ_19.out.below h20)
          have HB20 := Lib.hid (HB19.out.trans (h20.mono HB19.out.size))
          clear h20
          go_wp2_with fail
          refine (HR.out HY.out _ (HE.out.below HB20.out)).mono ?_
          rintro e w21 ⟨r21, rfl, ha21, h21⟩
          have HV_21 := Lib.hid ha21; clear ha21
          have HP_21 := Lib.hid (HP_20.out.below h21)
          have HQ_21 := Lib.hid (HQ_20.out.below h21)
          have HB21 := Lib.hid (HB20.out.trans (h21.mono HB20.out.size))
          clear h21
          go_wp2_with fail
          refine (PSame_arg _ r21 v ps ps true HV_21.out HP_21.out HL.out (by simp)).mono ?_
          rintro e w22 ⟨rfl, h22⟩
          have HP_22 := Lib.hid (HP_21.out.below h22)
          have HQ_22 := Lib.hid (HQ_21.out.below h22)
          have HB22 := Lib.hid (HB21.out.trans (h22.mono HB21.out.size))
          clear h22
          go_wp2_with fail
          refine (awake2_any _ (HE.out.below HB22.out)).mono ?_
          rintro e w23 ⟨rfl, h23⟩
          have HB23 := Lib.hid (HB22.out.trans (h23.mono HB22.out.size))
          clear h23
          go_wp2_with fail
          go_ret
          exact ⟨rfl, HB23.out⟩
        · clear hy
          have HP_20 := Lib.hid (HP_19.out.below h20)
          have HQ_20 := Lib.hid (HQ_19.out.below h20)
          have HB20 := Lib.hid (HB19.out.trans (h20.mono HB19.out.size))
          clear h20
          go_wp2_with fail
          refine (awake2_any _ (HE.out.below HB20.out)).mono ?_
          rintro e w24 ⟨rfl, h24⟩
          have HB24 := Lib.hid (HB20.out.trans (h24.mono HB20.out.size))
          clear h24
          go_wp2_with fail
          go_ret
          exact ⟨rfl, HB24.out⟩
    · clear hz
      have HP_6 := Lib.hid (HP_5.out.below h6)
      have HQ_6 := Lib.hid (HQ_5.out.below h6)
      have HB6 := Lib.hid (HB5.out.trans (h6.mono HB5.out.size))
      clear h6
      go_wp2_with fail
      refine (HD.out HX.out _ (HE.out.below HB6.out)).mono ?_
      rintro e w25 ⟨r25, rfl, ha25, h25⟩
      have HV_25 := Lib.hid ha25; clear ha25
      have HP_25 := Lib.hid (HP_6.out.below h25)
      have HQ_25 := Lib.hid (HQ_6.out.below h25)
      have HB25 := Lib.hid (HB6.out.trans (h25.mono HB6.out.size))
      clear h25
      go_wp2_with fail
      refine (PSame_arg _ r25 v ps ps true HV_25.out HP_25.out HL.out (by simp)).mono ?_
      rintro e w26 ⟨rfl, h26⟩
      have HP_26 := Lib.hid (HP_25.out.below h26)
      have HQ_26 := Lib.hid (HQ_25.out.below h26)
      have HB26 := Lib.hid (HB25.out.trans (h26.mono HB25.out.size))
      clear h26
      go_wp2_with fail
      refine (Twin_arg _ v ps HP_26.out HLP.out).mono ?_
      rintro e w27 ⟨t27, rfl, ho27, h27⟩
      have HT_27 := Lib.hid (own_prog ho27).2.1
      clear ho27
      have HP_27 := Lib.hid (HP_26.out.below h27)
      have HQ_27 := Lib.hid (HQ_26.out.below h27)
      have HB27 := Lib.hid (HB26.out.trans (h27.mono HB26.out.size))
      clear h27
      go_wp2_with fail
      refine (HTX.out _ t27 HT_27.out (HE.out.below HB27.out)).mono ?_
      rintro e w28 ⟨⟨hy, rfl⟩ | ⟨hy, rfl⟩, h28⟩
      · have HY := Lib.hid hy; clear hy
        have HP_28 := Lib.hid (HP_27.out.below h28)
        have HQ_28 := Lib.hid (HQ_27.out.below h28)
        have HB28 := Lib.hid (HB27.out.trans (h28.mono HB27.out.size))
        clear h28
        go_wp2_with fail
        refine (HR.out HY.out _ (HE.out.below HB28.out)).mono ?_
        rintro e w29 ⟨r29, rfl, ha29, h29⟩
        have HV_29 := Lib.hid ha29; clear ha29
        have HP_29 := Lib.hid (HP_28.out.below h29)
        have HQ_29 := Lib.hid (HQ_28.out.below h29)
        have HB29 := Lib.hid (HB28.out.trans (h29.mono HB28.out.size))
        clear h29
        go_wp2_with fail
        refine (PSame_arg _ r29 v ps ps true HV_29.out HP_29.out HL.out (by simp)).mono ?_
        rintro e w30 ⟨rfl, h30⟩
        have HP_30 := Lib.hid (HP_29.out.below h30)
        have HQ_30 := Lib.hid (HQ_29.out.below h30)
        have HB30 := Lib.hid (HB29.out.trans (h30.mono HB29.out.size))
        clear h30
        go_wp2_with fail
        refine (awake2_any _ (HE.out.below HB30.out)).mono ?_
        rintro e w31 ⟨rfl, h31⟩
        have HB31 := Lib.hid (HB30.out.trans (h31.mono HB30.out.size))
        clear h31
        go_wp2_with fail
        go_ret
        exact ⟨rfl, HB31.out⟩
      · clear hy
        have HP_28 := Lib.hid (HP_27.out.below h28)
        have HQ_28 := Lib.hid (HQ_27.out.below h28)
        have HB28 := Lib.hid (HB27.out.trans (h28.mono HB27.out.size))
        clear h28
        go_wp2_with fail
        refine (awake2_any _ (HE.out.below HB28.out)).mono ?_
        rintro e w32 ⟨rfl, h32⟩
        have HB32 := Lib.hid (HB28.out.trans (h32.mono HB28.out.size))
        clear h32
        go_wp2_with fail
        go_ret
        exact ⟨rfl, HB32.out⟩
  · have HX := Lib.hid hx; clear hx
    have HP_4 := Lib.hid (HP_3.out.below h4)
    have HQ_4 := Lib.hid (HQ_3.out.below h4)
    have HB4 := Lib.hid (HB3.out.trans (h4.mono HB3.out.size))
    clear h4
    go_wp2_with fail
    refine (Twin_arg _ u qs HQ_4.out HLQ.out).mono ?_
    rintro e w33 ⟨t33, rfl, ho33, h33⟩
    have HT_33 := Lib.hid (own_prog ho33).2.1
    clear ho33
    have HP_33 := Lib.hid (HP_4.out.below h33)
    have HQ_33 := Lib.hid (HQ_4.out.below h33)
    have HB33 := Lib.hid (HB4.out.trans (h33.mono HB4.out.size))
    clear h33
    go_wp2_with fail
    refine (HCZ.out _ t33 HT_33.out).mono ?_
    rintro e w34 ⟨⟨hz, rfl⟩ | ⟨hz, rfl⟩, h34⟩
    · clear hz
      have HP_34 := Lib.hid (HP_33.out.below h34)
      have HQ_34 := Lib.hid (HQ_33.out.below h34)
      have HB34 := Lib.hid (HB33.out.trans (h34.mono HB33.out.size))
      clear h34
      go_wp2_with fail
      refine (Twin_arg _ v ps HP_34.out HLP.out).mono ?_
      rintro e w35 ⟨t35, rfl, ho35, h35⟩
      have HT_35 := Lib.hid (own_prog ho35).2.1
      clear ho35
      have HP_35 := Lib.hid (HP_34.out.below h35)
      have HQ_35 := Lib.hid (HQ_34.out.below h35)
      have HB35 := Lib.hid (HB34.out.trans (h35.mono HB34.out.size))
      clear h35
      go_wp2_with fail
      refine (HTX.out _ t35 HT_35.out (HE.out.below HB35.out)).mono ?_
      rintro e w36 ⟨⟨hy, rfl⟩ | ⟨hy, rfl⟩, h36⟩
      · have HY := Lib.hid hy; clear hy
        have HP_36 := Lib.hid (HP_35.out.below h36)
        have HQ_36 := Lib.hid (HQ_35.out.below h36)
        have HB36 := Lib.hid (HB35.out.trans (h36.mono HB35.out.size))
        clear h36
        go_wp2_with fail
        refine (HR.out HY.out _ (HE.out.below HB36.out)).mono ?_
        rintro e w37 ⟨r37, rfl, ha37, h37⟩
        have HV_37 := Lib.hid ha37; clear ha37
        have HP_37 := Lib.hid (HP_36.out.below h37)
        have HQ_37 := Lib.hid (HQ_36.out.below h37)
        have HB37 := Lib.hid (HB36.out.trans (h37.mono HB36.out.size))
        clear h37
        go_wp2_with fail
        refine (PSame_arg _ r37 v ps ps true HV_37.out HP_37.out HL.out (by simp)).mono ?_
        rintro e w38 ⟨rfl, h38⟩
        have HP_38 := Lib.hid (HP_37.out.below h38)
        have HQ_38 := Lib.hid (HQ_37.out.below h38)
        have HB38 := Lib.hid (HB37.out.trans (h38.mono HB37.out.size))
        clear h38
        go_wp2_with fail
        refine (awake2_any _ (HE.out.below HB38.out)).mono ?_
        rintro e w39 ⟨rfl, h39⟩
        have HB39 := Lib.hid (HB38.out.trans (h39.mono HB38.out.size))
        clear h39
        go_wp2_with fail
        go_ret
        exact ⟨rfl, HB39.out⟩
      · clear hy
        have HP_36 := Lib.hid (HP_35.out.below h36)
        have HQ_36 := Lib.hid (HQ_35.out.below h36)
        have HB36 := Lib.hid (HB35.out.trans (h36.mono HB35.out.size))
        clear h36
        go_wp2_with fail
        refine (awake2_any _ (HE.out.below HB36.out)).mono ?_
        rintro e w40 ⟨rfl, h40⟩
        have HB40 := Lib.hid (HB36.out.trans (h40.mono HB36.out.size))
        clear h40
        go_wp2_with fail
        go_ret
        exact ⟨rfl, HB40.out⟩
    · clear hz
      have HP_34 := Lib.hid (HP_33.out.below h34)
      have HQ_34 := Lib.hid (HQ_33.out.below h34)
      have HB34 := Lib.hid (HB33.out.trans (h34.mono HB33.out.size))
      clear h34
      go_wp2_with fail
      refine (Twin_arg _ v ps HP_34.out HLP.out).mono ?_
      rintro e w41 ⟨t41, rfl, ho41, h41⟩
      have HT_41 := Lib.hid (own_prog ho41).2.1
      clear ho41
      have HP_41 := Lib.hid (HP_34.out.below h41)
      have HQ_41 := Lib.hid (HQ_34.out.below h41)
      have HB41 := Lib.hid (HB34.out.trans (h41.mono HB34.out.size))
      clear h41
      go_wp2_with fail
      refine (HTX.out _ t41 HT_41.out (HE.out.below HB41.out)).mono ?_
      rintro e w42 ⟨⟨hy, rfl⟩ | ⟨hy, rfl⟩, h42⟩
      · have HY := Lib.hid hy; clear hy
        have HP_42 := Lib.hid (HP_41.out.below h42)
        have HQ_42 := Lib.hid (HQ_41.out.below h42)
        have HB42 := Lib.hid (HB41.out.trans (h42.mono HB41.out.size))
        clear h42
        go_wp2_with fail
        refine (HR.out HY.out _ (HE.out.below HB42.out)).mono ?_
        rintro e w43 ⟨r43, rfl, ha43, h43⟩
        have HV_43 := Lib.hid ha43; clear ha43
        have HP_43 := Lib.hid (HP_42.out.below h43)
        have HQ_43 := Lib.hid (HQ_42.out.below h43)
        have HB43 := Lib.hid (HB42.out.trans (h43.mono HB42.out.size))
        clear h43
        go_wp2_with fail
        refine (PSame_arg _ r43 v ps ps true HV_43.out HP_43.out HL.out (by simp)).mono ?_
        rintro e w44 ⟨rfl, h44⟩
        have HP_44 := Lib.hid (HP_43.out.below h44)
        have HQ_44 := Lib.hid (HQ_43.out.below h44)
        have HB44 := Lib.hid (HB43.out.trans (h44.mono HB43.out.size))
        clear h44
        go_wp2_with fail
        refine (awake2_any _ (HE.out.below HB44.out)).mono ?_
        rintro e w45 ⟨rfl, h45⟩
        have HB45 := Lib.hid (HB44.out.trans (h45.mono HB44.out.size))
        clear h45
        go_wp2_with fail
        go_ret
        exact ⟨rfl, HB45.out⟩
      · clear hy
        have HP_42 := Lib.hid (HP_41.out.below h42)
        have HQ_42 := Lib.hid (HQ_41.out.below h42)
        have HB42 := Lib.hid (HB41.out.trans (h42.mono HB41.out.size))
        clear h42
        go_wp2_with fail
        refine (awake2_any _ (HE.out.below HB42.out)).mono ?_
        rintro e w46 ⟨rfl, h46⟩
        have HB46 := Lib.hid (HB42.out.trans (h46.mono HB42.out.size))
        clear h46
        go_wp2_with fail
        go_ret
        exact ⟨rfl, HB46.out⟩

set_option maxHeartbeats 3200000 in
set_option maxRecDepth 100000 in
theorem back_one (w : World) (v u : Value) (ps : List Ins) (h : ArgP w v ps) (hl : ps.length * 48 ≤ 140737488351232) (hz : ∀ y ∈ ps, y.tree.length ≤ 140737488351232) (hp : ¬ PValid ps) (hE : Env w) :
    Calls Tryz.prog 6 #[v, u] w fun e w' => e = .returned (.bool true) ∧ Below w.heap.size w w' := by
  have HV := Lib.hid (PV_arg w v ps false h (by omega) (fun x hx => by have := hz x hx; omega) (by simp [hp]))
  have HE := Lib.hid hE
  clear h hl hz hp hE
  go_enter Tryz.func6, Tryz.ntmps6
  go_wp2_with fail
  refine HV.out.mono ?_
  rintro e w1 ⟨rfl, h1⟩
  have HB1 := Lib.hid h1; clear h1 HV
  go_wp2_with fail
  refine (awake2_any _ (HE.out.below HB1.out)).mono ?_
  rintro e w2 ⟨rfl, h2⟩
  have HB2 := Lib.hid (HB1.out.trans (h2.mono HB1.out.size)); clear h2
  go_wp2_with fail
  go_ret
  exact ⟨rfl, HB2.out⟩
set_option maxHeartbeats 3200000 in
set_option maxRecDepth 100000 in
theorem back_two (w : World) (v u : Value) (ps qs : List Ins) (h : ArgP w v ps) (h2 : ArgP w u qs) (hl : qs.length * 48 ≤ 140737488351232) (hz : ∀ y ∈ qs, y.tree.length ≤ 140737488351232) (hp : PValid ps) (hq : ¬ PValid qs) (hE : Env w) :
    Calls Tryz.prog 6 #[v, u] w fun e w' => e = .returned (.bool true) ∧ Below w.heap.size w w' := by
  have HV := Lib.hid (PV_arg w v ps true h (by have := hp.1; omega) (fun x hx => by have := tree_le x hx; have := hp.2.1; omega) (by simp [hp]))
  have HU := Lib.hid (fun W hW => PV_arg W u qs false hW (by omega) (fun x hx => by have := hz x hx; omega) (by simp [hq]))
  have HE := Lib.hid hE; have HA := Lib.hid h2
  clear h h2 hl hz hp hq hE
  go_enter Tryz.func6, Tryz.ntmps6
  go_wp2_with fail
  refine HV.out.mono ?_
  rintro e w1 ⟨rfl, h1⟩
  have HB1 := Lib.hid h1; have HA1 := Lib.hid (HA.out.below h1); clear h1 HV HA
  go_wp2_with fail
  refine (HU.out _ HA1.out).mono ?_
  rintro e w2 ⟨rfl, h2⟩
  have HB2 := Lib.hid (HB1.out.trans (h2.mono HB1.out.size)); clear h2 HU
  go_wp2_with fail
  refine (awake2_any _ (HE.out.below HB2.out)).mono ?_
  rintro e w3 ⟨rfl, h3⟩
  have HB3 := Lib.hid (HB2.out.trans (h3.mono HB2.out.size)); clear h3
  go_wp2_with fail
  go_ret
  exact ⟨rfl, HB3.out⟩
theorem back_yes (w : World) (v u : Value) (ps qs : List Ins) (h : ArgP w v ps) (h2 : ArgP w u qs) (hl : ps.length * 48 ≤ 140737488351232) (hl2 : qs.length * 48 ≤ 140737488351232) (hz : ∀ y ∈ ps, y.tree.length ≤ 140737488351232) (hz2 : ∀ y ∈ qs, y.tree.length ≤ 140737488351232) (hE : Env w) :
    Calls Tryz.prog 6 #[v, u] w fun e w' => e = .returned (.bool true) ∧ Below w.heap.size w w' := by
  by_cases hp : PValid ps
  · by_cases hq : PValid qs
    · exact back_good w v u ps qs h h2 hp hq hE
    · exact back_two w v u ps qs h h2 hl2 hz2 hp hq hE
  · exact back_one w v u ps h hl hz hp hE
end Go.Proofs.YtlfoigkpfooopaaGreatDoor

namespace Go.Proofs.YtlfoigkpfooopaaGreatDoor.codeBack
open Go.ChangeShapes Go.WideShapes Go.ChangeAt Go.RowKit

theorem own : ownKnob Tryz.prog.godebug = none := by kernel_rfl
theorem laidOut : laidOutB Tryz.prog = true := by kernel_rfl

set_option maxRecDepth 100000 in
theorem lifted (os : Os) (started : os.Started) (H : Type) (enc : TypeId × Value → H) :
    ReturnsInHanded {} Tryz.checked os 6 .any (fun w args => (Rows.codeBackSpec.pre enc Tryz.prog Tryz.f6 Rows.codeBackRow.domain false w args ∧ laidMetH Tryz.prog laid7 w) ∧ sizedMet enc Tryz.prog Tryz.f6 (OpenSpec.ofChange Rows.codeBackSpec) false w args)
      (Rows.codeBackSpec.post enc Tryz.prog Tryz.f6 false true false false) := by
  refine returnsInHanded_and_shaped (C := Tryz.checked) (X := fun w _ => laidMetH Tryz.prog laid7 w) (fun _ _ _ hh h => h.of_heap hh) own started (by kernel_rfl) Tryz.func6
    (ChangeSpec.witness_shaped (enc := enc) (C := Tryz.checked) (os := os) (X := fun w _ => laidMetH Tryz.prog laid7 w) false (laidWorld os) #[.slice none 0 0, .slice none 0 0] 8 rfl (World.shaped_of_RefB (by kernel_rfl) (by kernel_rfl)) (by kernel_rfl) (by kernel_rfl) (by kernel_rfl) (laid_met os _)) ?_
  intro W base args ds gs before hval0 hW _ hsz0 hL hsh _
  have hsz : (DataW.weightsEach Tryz.prog (Tryz.f6.params.toList ++ Rows.codeBackSpec.plain.varTypes Tryz.prog) (ds ++ gs)).all (· ≤ reachBytes) = true := hsz0
  clear hsz0
  have hval : ∀ (j : Nat) t v, Tryz.f6.params[j]? = some t → args[j]? = some v → Value.okWide Tryz.prog W .any base t v := hval0
  have hW' := hW
  obtain ⟨p, q, hA0, hV, rfl, _, _⟩ := hW
  have hA : DataW.TrodAll enc Tryz.prog W 0 (fun _ => true) true Tryz.f6.params.toList args.toList ds p := hA0
  rw [Tryz.params6] at hA hval hsz
  obtain ⟨v0, v1, d0, d1, p0, p1, rfl, rfl, rfl, h0, h1⟩ := trodAll_two hA
  obtain ⟨rfl, rfl⟩ := trodVars_none hV
  obtain ⟨a0, len, cap, rfl⟩ := okWide_slice Tryz.underlying23 (hval 0 23 v0 rfl rfl)
  obtain ⟨a1, len1, cap1, rfl⟩ := okWide_slice Tryz.underlying23 (hval 1 23 v1 rfl rfl)
  have h0k := h0
  have h1k := h1
  obtain ⟨fuel, hf⟩ := h0
  obtain ⟨fuel1, hf1⟩ := h1
  clear hA0 hval0
  simp only [List.append_nil] at hW'
  have hlt0 : ∀ x ∈ p0, x.block < W.heap.size := fun x hx => hW'.lt x (by simp [hx])
  have hlt1 : ∀ x ∈ p1, x.block < W.heap.size := fun x hx => hW'.lt x (by simp [hx])
  obtain ⟨ps, hl, ha, hz⟩ := open_prog hf hlt0 (fun n hn => by
    have := of_decide_eq_true (List.all_eq_true.1 hsz n (DataW.weights_mem_each (j := 0) rfl rfl n hn))
    simpa [reachBytes] using this)
  obtain ⟨qs, hl1, ha1, hz1⟩ := open_prog hf1 hlt1 (fun n hn => by
    have := of_decide_eq_true (List.all_eq_true.1 hsz n (DataW.weights_mem_each (j := 1) rfl rfl n hn))
    simpa [reachBytes] using this)
  refine (back_yes W _ _ ps qs ha ha1 hl hl1 hz hz1 (env_of_laid hL hsh)).mono fun e W' ⟨he, hnx⟩ => ⟨_, he, ?_⟩
  refine ⟨_, _, _, [] ++ [], p0 ++ p1, [], hW', ?_, ?_, rfl, hnx.frame _, fun h => by cases h⟩
  · exact trodAll_mk1 (shut_bool Tryz.underlying4 _)
  · exact trodAll_mk2 (Below.trod laidOut (by kernel_rfl) (of_decide_eq_true (by kernel_rfl)) h0k hnx hlt0) (Below.trod laidOut (by kernel_rfl) (of_decide_eq_true (by kernel_rfl)) h1k hnx hlt1)

theorem row_holds : Rows.CodeBackSaid :=
  OpenClaim.holds_of_wide 6 Tryz.f6 rfl rfl rfl rfl rfl rfl rfl ⟨rfl, rfl, rfl, rfl, rfl⟩ rfl rfl rfl rfl rfl (by kernel_rfl) Tryz.func6 (by kernel_rfl)
    (of_decide_eq_true (by kernel_rfl)) (by unfold Func.isWrapper; first | (rw [if_pos (by decide +kernel)]; kernel_rfl) | (rw [if_neg (by decide +kernel)]; exact ⟨rfl, rfl⟩))
    (fun os started H enc _ => lifted os started H enc)
theorem holds : Rows.CodeBackCardSaid :=
  Claim7.holds_tied_plain_at .later [] [.data, .data, .data, .data, .sentinel, .sentinel, .pinned] true Rows.codeBackCard.stood.harness true
    row_holds (fun _ h => by cases h) (by kernel_rfl) (fun _ h => by cases h) codeBack_row_tie rfl ⟨rfl, rfl⟩ (by kernel_rfl) rfl
    (fun f fn hf hfn => by
      obtain rfl : f = 6 := Option.some.inj ((show Tryz.prog.funcNamed "narcissus/narcissuslaw02.CodeBack" = some 6 by kernel_rfl).symm.trans hf) |>.symm
      obtain rfl : fn = Tryz.f6 := (Option.some.inj (Tryz.func6.symm.trans hfn)).symm
      exact ⟨by kernel_rfl, fun j t ht => by
        rw [Tryz.params6] at ht
        have h3 : t = 23 := by
          rcases j with _ | _ | j
          · simpa using ht.symm
          · simp at ht; exact ht.symm
          · simp at ht
        subst h3
        exact (show Tryz.prog.wantsStandIn 23 = false by kernel_rfl)⟩)
    (by kernel_rfl)
end Go.Proofs.YtlfoigkpfooopaaGreatDoor.codeBack
