/- The walk of CodeAccepts. By an AI agent. -/
import Derived.Test.YtlfoigkpfooopaaGreatDoorGens
namespace Go.Proofs.YtlfoigkpfooopaaGreatDoor
open Go.RowKit Pl

set_option maxHeartbeats 3200000 in
set_option maxRecDepth 100000 in
theorem accepts_yes (s : ByteArray) (w : World) (hs : s.size ≤ 281474976710656) (hE : Env w) :
    Calls Tryz.prog 7 #[.string s] w fun e w' => e = .returned (.bool true) ∧ Below w.heap.size w w' := by
  have HE := Lib.hid hE
  have HS := Lib.hid hs
  clear hE hs
  go_enter Tryz.func7, Tryz.ntmps7
  go_wp2_with fail
  refine (Decode_gen s _ HS.out HE.out).mono ?_
  rintro e w1 ⟨⟨ps, v, hp, he, hv, rfl, ha⟩ | ⟨n, hn, rfl⟩, h1⟩
  · have HP := Lib.hid hp; have HEN := Lib.hid he; have HV := Lib.hid hv; have HA := Lib.hid ha; have HB1 := Lib.hid h1
    clear hp he hv ha h1
    go_wp2_with fail
    refine (Code_to s ps _ v HA.out HP.out HEN.out HV.out).mono ?_
    rintro e w2 ⟨rfl, h2⟩
    have HA2 := Lib.hid (HA.out.below h2)
    have HB2 := Lib.hid (HB1.out.trans (h2.mono HB1.out.size))
    clear h2
    go_wp2_with fail
    refine (CV_yes _ v ps HA2.out HP.out).mono ?_
    rintro e w3 ⟨rfl, h3⟩
    have HB3 := Lib.hid (HB2.out.trans (h3.mono HB2.out.size))
    clear h3 HA HA2 HP HEN
    go_wp2_with fail
    refine (Parse_gen s _ HS.out (HE.out.below HB3.out)).mono ?_
    rintro e w4 ⟨⟨qs, u, hp, he, hz, rfl, ha⟩ | ⟨_, rfl⟩, h4⟩
    · have HP := Lib.hid hp; have HEN := Lib.hid he; have HA := Lib.hid ha; have HZ := Lib.hid hz
      have HB4 := Lib.hid (HB3.out.trans (h4.mono HB3.out.size))
      clear hp he ha hz h4
      go_wp2_with fail
      refine (Text_to s qs _ u HA.out HP.out HEN.out HZ.out (HE.out.below HB4.out)).mono ?_
      rintro e w5 ⟨rfl, h5⟩
      have HA5 := Lib.hid (HA.out.below h5)
      have HB5 := Lib.hid (HB4.out.trans (h5.mono HB4.out.size))
      clear h5
      go_wp2_with fail
      refine (CV_yes _ u qs HA5.out HP.out).mono ?_
      rintro e w6 ⟨rfl, h6⟩
      have HB6 := Lib.hid (HB5.out.trans (h6.mono HB5.out.size))
      clear h6
      go_wp2_with fail
      refine (awake2_any _ (HE.out.below HB6.out)).mono ?_
      rintro e w7 ⟨rfl, h7⟩
      have HB7 := Lib.hid (HB6.out.trans (h7.mono HB6.out.size))
      clear h7
      go_wp2_with fail
      go_ret
      exact ⟨rfl, HB7.out⟩
    · have HB4 := Lib.hid (HB3.out.trans (h4.mono HB3.out.size))
      clear h4
      go_wp2_with fail
      refine (awake2_any _ (HE.out.below HB4.out)).mono ?_
      rintro e w7 ⟨rfl, h7⟩
      have HB7 := Lib.hid (HB4.out.trans (h7.mono HB4.out.size))
      clear h7
      go_wp2_with fail
      go_ret
      exact ⟨rfl, HB7.out⟩
  · have hn0 : n ≠ 0 := by rcases hn with ⟨h, _⟩ | ⟨h, _⟩ <;> omega
    have hn1 : (n == 0) = false := by simpa using hn0
    have HB3 := Lib.hid h1
    clear hn h1 hn0
    go_wp2_with fail
    refine (Parse_gen s _ HS.out (HE.out.below HB3.out)).mono ?_
    rintro e w4 ⟨⟨qs, u, hp, he, hz, rfl, ha⟩ | ⟨_, rfl⟩, h4⟩
    · have HP := Lib.hid hp; have HEN := Lib.hid he; have HA := Lib.hid ha; have HZ := Lib.hid hz
      have HB4 := Lib.hid (HB3.out.trans (h4.mono HB3.out.size))
      clear hp he ha hz h4
      go_wp2_with fail
      refine (Text_to s qs _ u HA.out HP.out HEN.out HZ.out (HE.out.below HB4.out)).mono ?_
      rintro e w5 ⟨rfl, h5⟩
      have HA5 := Lib.hid (HA.out.below h5)
      have HB5 := Lib.hid (HB4.out.trans (h5.mono HB4.out.size))
      clear h5
      go_wp2_with fail
      refine (CV_yes _ u qs HA5.out HP.out).mono ?_
      rintro e w6 ⟨rfl, h6⟩
      have HB6 := Lib.hid (HB5.out.trans (h6.mono HB5.out.size))
      clear h6
      go_wp2_with fail
      refine (awake2_any _ (HE.out.below HB6.out)).mono ?_
      rintro e w7 ⟨rfl, h7⟩
      have HB7 := Lib.hid (HB6.out.trans (h7.mono HB6.out.size))
      clear h7
      go_wp2_with fail
      go_ret
      exact ⟨rfl, HB7.out⟩
    · have HB4 := Lib.hid (HB3.out.trans (h4.mono HB3.out.size))
      clear h4
      go_wp2_with fail
      refine (awake2_any _ (HE.out.below HB4.out)).mono ?_
      rintro e w7 ⟨rfl, h7⟩
      have HB7 := Lib.hid (HB4.out.trans (h7.mono HB4.out.size))
      clear h7
      go_wp2_with fail
      go_ret
      exact ⟨rfl, HB7.out⟩
end Go.Proofs.YtlfoigkpfooopaaGreatDoor
