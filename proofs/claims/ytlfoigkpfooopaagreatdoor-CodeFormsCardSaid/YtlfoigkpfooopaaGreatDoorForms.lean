/- The walk of CodeForms. By an AI agent. -/
import Derived.Test.YtlfoigkpfooopaaGreatDoorGens
namespace Go.Proofs.YtlfoigkpfooopaaGreatDoor
open Go.RowKit Pl

set_option maxHeartbeats 6400000 in
set_option maxRecDepth 100000 in
theorem forms_good (w : World) (v : Value) (ps : List Ins) (h : ArgP w v ps) (hl : ps.length * 48 ≤ 140737488351232) (hz : ∀ y ∈ ps, y.tree.length ≤ 140737488351232) (hp : PValid ps) (hE : Env w) :
    Calls Tryz.prog 3 #[v] w fun e w' => e = .returned (.bool true) ∧ Below w.heap.size w w' := by
  have HC := Lib.hid (fun W hW => Code_arg W v ps hW hp)
  have HX := Lib.hid (fun W hW => Text_arg W v ps hW hp)
  have HPC := Lib.hid (fun W hW => PCode_arg W v ps hW hp)
  have HPX := Lib.hid (fun W hW hE => PText_arg W v ps hW hp hE)
  have htl := txt_len hp
  have hcl : (enc (codes ps)).length ≤ 281474976710656 := by
    have h1 := enc_map_len (f := codeOf) (fun x hx => AllR.mem hp.2.2 hp.1 x hx)
    have h2 := hp.1; have h3 := hp.2.1
    have : ps.length * 9001 ≤ 4000 * 9001 := Nat.mul_le_mul_right _ h2
    unfold codes
    omega
  have hpl := hp.1
  have HZ : Hid (∀ x ∈ ps, x.tree.length ≤ 281474976710656) := Lib.hid (fun x hx => by have := hz x hx; omega)
  have HL : Hid (ps.length ≤ 281474976710656) := Lib.hid (by omega)
  have HL2 : Hid (ps.length * 48 ≤ 140737488355328) := Lib.hid (by omega)
  have HA := Lib.hid h; have HP := Lib.hid hp; have HE := Lib.hid hE
  clear h hp hE hz hl hpl
  unfold CRes at HPC
  unfold TRes at HPX
  generalize enc (codes ps) = X at *
  generalize txt ps = Y at *
  have sx : (S X).size = X.length := S_size X
  have sy : (S Y).size = Y.length := S_size Y
  go_enter Tryz.func3, Tryz.ntmps3
  go_wp2_with fail
  refine (Twin_arg _ v ps HA.out HL2.out).mono ?_
  rintro e w1 ⟨v1, rfl, hown, h1⟩
  have HA1 := Lib.hid (HA.out.below h1); have HT1 := Lib.hid (own_prog hown).2.1; have HB1 := Lib.hid h1; clear h1 hown
  go_wp2_with fail
  refine (PRegs_arg _ v ps HA1.out HP.out).mono ?_
  rintro e w2 ⟨rfl, h2⟩
  have HA2 := Lib.hid (HA1.out.below h2); have HT2 := Lib.hid (HT1.out.below h2); have HB2 := Lib.hid (HB1.out.trans (h2.mono HB1.out.size)); clear h2
  go_wp2_with fail
  refine (HPC.out _ HA2.out).mono ?_
  rintro e w3 ⟨⟨hc, rfl⟩ | ⟨hc, rfl⟩, h3⟩
  · have HA3 := Lib.hid (HA2.out.below h3); have HT3 := Lib.hid (HT2.out.below h3); have HB3 := Lib.hid (HB2.out.trans (h3.mono HB2.out.size)); clear h3
    have hci : (X.length : Int) ≤ 2000000 := by omega
    clear hc
    go_wp2_with fail
    refine (HPX.out _ HA3.out (HE.out.below HB3.out)).mono ?_
    rintro e w4 ⟨⟨hx, rfl⟩ | ⟨hx, rfl⟩, h4⟩
    · have HA4 := Lib.hid (HA3.out.below h4); have HT4 := Lib.hid (HT3.out.below h4); have HB4 := Lib.hid (HB3.out.trans (h4.mono HB3.out.size)); clear h4
      have hxi : (Y.length : Int) ≤ 4000000 := by omega
      clear hx
      go_wp2_with fail
      refine (CV_yes _ v ps HA4.out HP.out).mono ?_
      rintro e w5 ⟨rfl, h5⟩
      have HA5 := Lib.hid (HA4.out.below h5); have HT5 := Lib.hid (HT4.out.below h5); have HB5 := Lib.hid (HB4.out.trans (h5.mono HB4.out.size)); clear h5
      go_wp2_with fail
      refine (PV_arg _ v1 ps true HT5.out HL.out HZ.out (by simp [HP.out])).mono ?_
      rintro e w6 ⟨rfl, h6⟩
      have HA6 := Lib.hid (HA5.out.below h6); have HT6 := Lib.hid (HT5.out.below h6); have HB6 := Lib.hid (HB5.out.trans (h6.mono HB5.out.size)); clear h6
      go_wp2_with fail
      refine (PSame_arg _ v v1 ps ps true HA6.out HT6.out HL.out (by simp)).mono ?_
      rintro e w7 ⟨rfl, h7⟩
      have HA7 := Lib.hid (HA6.out.below h7); have HB7 := Lib.hid (HB6.out.trans (h7.mono HB6.out.size)); clear h7
      go_wp2_with fail
      refine (PV_arg _ v ps true HA7.out HL.out HZ.out (by simp [HP.out])).mono ?_
      rintro e w8 ⟨rfl, h8⟩
      have HA8 := Lib.hid (HA7.out.below h8); have HB8 := Lib.hid (HB7.out.trans (h8.mono HB7.out.size)); clear h8
      go_wp2_with fail
      refine (HC.out _ HA8.out).mono ?_
      rintro e w9 ⟨rfl, h9⟩
      have HA9 := Lib.hid (HA8.out.below h9); have HB9 := Lib.hid (HB8.out.trans (h9.mono HB8.out.size)); clear h9
      go_wp2_with fail
      refine (HX.out _ HA9.out).mono ?_
      rintro e w10 ⟨rfl, h10⟩
      have HA10 := Lib.hid (HA9.out.below h10); have HB10 := Lib.hid (HB9.out.trans (h10.mono HB9.out.size)); clear h10
      go_wp2_with fail
      refine (Regs_arg _ v ps HA10.out HP.out).mono ?_
      rintro e w11 ⟨rfl, h11⟩
      have HB11 := Lib.hid (HB10.out.trans (h11.mono HB10.out.size)); clear h11
      go_wp2_with fail
      refine (awake2_any _ (HE.out.below HB11.out)).mono ?_
      rintro e w12 ⟨rfl, h12⟩
      have HB12 := Lib.hid (HB11.out.trans (h12.mono HB11.out.size)); clear h12
      go_wp2_with fail
      go_ret
      exact ⟨rfl, HB12.out⟩
    · have HA4 := Lib.hid (HA3.out.below h4); have HT4 := Lib.hid (HT3.out.below h4); have HB4 := Lib.hid (HB3.out.trans (h4.mono HB3.out.size)); clear h4
      have hxi : (4000000 : Int) < (Y.length : Int) := by omega
      clear hx
      go_wp2_with fail
      refine (CV_yes _ v ps HA4.out HP.out).mono ?_
      rintro e w5 ⟨rfl, h5⟩
      have HA5 := Lib.hid (HA4.out.below h5); have HT5 := Lib.hid (HT4.out.below h5); have HB5 := Lib.hid (HB4.out.trans (h5.mono HB4.out.size)); clear h5
      go_wp2_with fail
      refine (PV_arg _ v1 ps true HT5.out HL.out HZ.out (by simp [HP.out])).mono ?_
      rintro e w6 ⟨rfl, h6⟩
      have HA6 := Lib.hid (HA5.out.below h6); have HT6 := Lib.hid (HT5.out.below h6); have HB6 := Lib.hid (HB5.out.trans (h6.mono HB5.out.size)); clear h6
      go_wp2_with fail
      refine (PSame_arg _ v v1 ps ps true HA6.out HT6.out HL.out (by simp)).mono ?_
      rintro e w7 ⟨rfl, h7⟩
      have HA7 := Lib.hid (HA6.out.below h7); have HB7 := Lib.hid (HB6.out.trans (h7.mono HB6.out.size)); clear h7
      go_wp2_with fail
      refine (PV_arg _ v ps true HA7.out HL.out HZ.out (by simp [HP.out])).mono ?_
      rintro e w8 ⟨rfl, h8⟩
      have HA8 := Lib.hid (HA7.out.below h8); have HB8 := Lib.hid (HB7.out.trans (h8.mono HB7.out.size)); clear h8
      go_wp2_with fail
      refine (HC.out _ HA8.out).mono ?_
      rintro e w9 ⟨rfl, h9⟩
      have HA9 := Lib.hid (HA8.out.below h9); have HB9 := Lib.hid (HB8.out.trans (h9.mono HB8.out.size)); clear h9
      go_wp2_with fail
      refine (HX.out _ HA9.out).mono ?_
      rintro e w10 ⟨rfl, h10⟩
      have HA10 := Lib.hid (HA9.out.below h10); have HB10 := Lib.hid (HB9.out.trans (h10.mono HB9.out.size)); clear h10
      go_wp2_with fail
      refine (Regs_arg _ v ps HA10.out HP.out).mono ?_
      rintro e w11 ⟨rfl, h11⟩
      have HB11 := Lib.hid (HB10.out.trans (h11.mono HB10.out.size)); clear h11
      go_wp2_with fail
      refine (awake2_any _ (HE.out.below HB11.out)).mono ?_
      rintro e w12 ⟨rfl, h12⟩
      have HB12 := Lib.hid (HB11.out.trans (h12.mono HB11.out.size)); clear h12
      go_wp2_with fail
      go_ret
      exact ⟨rfl, HB12.out⟩
  · have HA3 := Lib.hid (HA2.out.below h3); have HT3 := Lib.hid (HT2.out.below h3); have HB3 := Lib.hid (HB2.out.trans (h3.mono HB2.out.size)); clear h3
    have hci : (2000000 : Int) < (X.length : Int) := by omega
    clear hc
    go_wp2_with fail
    refine (HPX.out _ HA3.out (HE.out.below HB3.out)).mono ?_
    rintro e w4 ⟨⟨hx, rfl⟩ | ⟨hx, rfl⟩, h4⟩
    · have HA4 := Lib.hid (HA3.out.below h4); have HT4 := Lib.hid (HT3.out.below h4); have HB4 := Lib.hid (HB3.out.trans (h4.mono HB3.out.size)); clear h4
      have hxi : (Y.length : Int) ≤ 4000000 := by omega
      clear hx
      go_wp2_with fail
      refine (CV_yes _ v ps HA4.out HP.out).mono ?_
      rintro e w5 ⟨rfl, h5⟩
      have HA5 := Lib.hid (HA4.out.below h5); have HT5 := Lib.hid (HT4.out.below h5); have HB5 := Lib.hid (HB4.out.trans (h5.mono HB4.out.size)); clear h5
      go_wp2_with fail
      refine (PV_arg _ v1 ps true HT5.out HL.out HZ.out (by simp [HP.out])).mono ?_
      rintro e w6 ⟨rfl, h6⟩
      have HA6 := Lib.hid (HA5.out.below h6); have HT6 := Lib.hid (HT5.out.below h6); have HB6 := Lib.hid (HB5.out.trans (h6.mono HB5.out.size)); clear h6
      go_wp2_with fail
      refine (PSame_arg _ v v1 ps ps true HA6.out HT6.out HL.out (by simp)).mono ?_
      rintro e w7 ⟨rfl, h7⟩
      have HA7 := Lib.hid (HA6.out.below h7); have HB7 := Lib.hid (HB6.out.trans (h7.mono HB6.out.size)); clear h7
      go_wp2_with fail
      refine (PV_arg _ v ps true HA7.out HL.out HZ.out (by simp [HP.out])).mono ?_
      rintro e w8 ⟨rfl, h8⟩
      have HA8 := Lib.hid (HA7.out.below h8); have HB8 := Lib.hid (HB7.out.trans (h8.mono HB7.out.size)); clear h8
      go_wp2_with fail
      refine (HC.out _ HA8.out).mono ?_
      rintro e w9 ⟨rfl, h9⟩
      have HA9 := Lib.hid (HA8.out.below h9); have HB9 := Lib.hid (HB8.out.trans (h9.mono HB8.out.size)); clear h9
      go_wp2_with fail
      refine (HX.out _ HA9.out).mono ?_
      rintro e w10 ⟨rfl, h10⟩
      have HA10 := Lib.hid (HA9.out.below h10); have HB10 := Lib.hid (HB9.out.trans (h10.mono HB9.out.size)); clear h10
      go_wp2_with fail
      refine (Regs_arg _ v ps HA10.out HP.out).mono ?_
      rintro e w11 ⟨rfl, h11⟩
      have HB11 := Lib.hid (HB10.out.trans (h11.mono HB10.out.size)); clear h11
      go_wp2_with fail
      refine (awake2_any _ (HE.out.below HB11.out)).mono ?_
      rintro e w12 ⟨rfl, h12⟩
      have HB12 := Lib.hid (HB11.out.trans (h12.mono HB11.out.size)); clear h12
      go_wp2_with fail
      go_ret
      exact ⟨rfl, HB12.out⟩
    · have HA4 := Lib.hid (HA3.out.below h4); have HT4 := Lib.hid (HT3.out.below h4); have HB4 := Lib.hid (HB3.out.trans (h4.mono HB3.out.size)); clear h4
      have hxi : (4000000 : Int) < (Y.length : Int) := by omega
      clear hx
      go_wp2_with fail
      refine (CV_yes _ v ps HA4.out HP.out).mono ?_
      rintro e w5 ⟨rfl, h5⟩
      have HA5 := Lib.hid (HA4.out.below h5); have HT5 := Lib.hid (HT4.out.below h5); have HB5 := Lib.hid (HB4.out.trans (h5.mono HB4.out.size)); clear h5
      go_wp2_with fail
      refine (PV_arg _ v1 ps true HT5.out HL.out HZ.out (by simp [HP.out])).mono ?_
      rintro e w6 ⟨rfl, h6⟩
      have HA6 := Lib.hid (HA5.out.below h6); have HT6 := Lib.hid (HT5.out.below h6); have HB6 := Lib.hid (HB5.out.trans (h6.mono HB5.out.size)); clear h6
      go_wp2_with fail
      refine (PSame_arg _ v v1 ps ps true HA6.out HT6.out HL.out (by simp)).mono ?_
      rintro e w7 ⟨rfl, h7⟩
      have HA7 := Lib.hid (HA6.out.below h7); have HB7 := Lib.hid (HB6.out.trans (h7.mono HB6.out.size)); clear h7
      go_wp2_with fail
      refine (PV_arg _ v ps true HA7.out HL.out HZ.out (by simp [HP.out])).mono ?_
      rintro e w8 ⟨rfl, h8⟩
      have HA8 := Lib.hid (HA7.out.below h8); have HB8 := Lib.hid (HB7.out.trans (h8.mono HB7.out.size)); clear h8
      go_wp2_with fail
      refine (HC.out _ HA8.out).mono ?_
      rintro e w9 ⟨rfl, h9⟩
      have HA9 := Lib.hid (HA8.out.below h9); have HB9 := Lib.hid (HB8.out.trans (h9.mono HB8.out.size)); clear h9
      go_wp2_with fail
      refine (HX.out _ HA9.out).mono ?_
      rintro e w10 ⟨rfl, h10⟩
      have HA10 := Lib.hid (HA9.out.below h10); have HB10 := Lib.hid (HB9.out.trans (h10.mono HB9.out.size)); clear h10
      go_wp2_with fail
      refine (Regs_arg _ v ps HA10.out HP.out).mono ?_
      rintro e w11 ⟨rfl, h11⟩
      have HB11 := Lib.hid (HB10.out.trans (h11.mono HB10.out.size)); clear h11
      go_wp2_with fail
      refine (awake2_any _ (HE.out.below HB11.out)).mono ?_
      rintro e w12 ⟨rfl, h12⟩
      have HB12 := Lib.hid (HB11.out.trans (h12.mono HB11.out.size)); clear h12
      go_wp2_with fail
      go_ret
      exact ⟨rfl, HB12.out⟩

set_option maxHeartbeats 3200000 in
set_option maxRecDepth 100000 in
theorem forms_bad (w : World) (v : Value) (ps : List Ins) (h : ArgP w v ps) (hl : ps.length * 48 ≤ 140737488351232) (hz : ∀ y ∈ ps, y.tree.length ≤ 140737488351232) (hp : ¬ PValid ps) (hE : Env w) :
    Calls Tryz.prog 3 #[v] w fun e w' => e = .returned (.bool true) ∧ Below w.heap.size w w' := by
  have HZ : Hid (∀ x ∈ ps, x.tree.length ≤ 281474976710656) := Lib.hid (fun x hx => by have := hz x hx; omega)
  have HL : Hid (ps.length ≤ 281474976710656) := Lib.hid (by omega)
  have HL2 : Hid (ps.length * 48 ≤ 140737488355328) := Lib.hid (by omega)
  have HA := Lib.hid h; have HP := Lib.hid hp; have HE := Lib.hid hE
  have HPC : Hid (∀ W, ArgP W v ps → Calls Tryz.prog 11 #[v] W fun e w' => e = .returned (.tuple #[.string ⟨#[]⟩, .int .i64 1]) ∧ Below W.heap.size W w') := Lib.hid (fun W hW => PCode_bad W v ps hW HL.out HZ.out hp)
  have HPX : Hid (∀ W, ArgP W v ps → Calls Tryz.prog 12 #[v] W fun e w' => e = .returned (.tuple #[.string ⟨#[]⟩, .int .i64 1]) ∧ Below W.heap.size W w') := Lib.hid (fun W hW => PText_bad W v ps hW HL.out HZ.out hp)
  clear h hp hE hz hl
  go_enter Tryz.func3, Tryz.ntmps3
  go_wp2_with fail
  refine (Twin_arg _ v ps HA.out HL2.out).mono ?_
  rintro e w1 ⟨v1, rfl, hown, h1⟩
  have HA1 := Lib.hid (HA.out.below h1); have HT1 := Lib.hid (own_prog hown).2.1; have HB1 := Lib.hid h1; clear h1 hown
  go_wp2_with fail
  refine (PRegs_bad _ v ps HA1.out HL.out HZ.out HP.out).mono ?_
  rintro e w2 ⟨rfl, h2⟩
  have HA2 := Lib.hid (HA1.out.below h2); have HT2 := Lib.hid (HT1.out.below h2); have HB2 := Lib.hid (HB1.out.trans (h2.mono HB1.out.size)); clear h2
  go_wp2_with fail
  refine (HPC.out _ HA2.out).mono ?_
  rintro e w3 ⟨rfl, h3⟩
  have HA3 := Lib.hid (HA2.out.below h3); have HT3 := Lib.hid (HT2.out.below h3); have HB3 := Lib.hid (HB2.out.trans (h3.mono HB2.out.size)); clear h3
  go_wp2_with fail
  refine (HPX.out _ HA3.out).mono ?_
  rintro e w4 ⟨rfl, h4⟩
  have HA4 := Lib.hid (HA3.out.below h4); have HT4 := Lib.hid (HT3.out.below h4); have HB4 := Lib.hid (HB3.out.trans (h4.mono HB3.out.size)); clear h4
  go_wp2_with fail
  refine (CV_arg _ v ps false HA4.out HL.out HZ.out (by simp [HP.out])).mono ?_
  rintro e w5 ⟨rfl, h5⟩
  have HA5 := Lib.hid (HA4.out.below h5); have HT5 := Lib.hid (HT4.out.below h5); have HB5 := Lib.hid (HB4.out.trans (h5.mono HB4.out.size)); clear h5
  go_wp2_with fail
  refine (PV_arg _ v1 ps false HT5.out HL.out HZ.out (by simp [HP.out])).mono ?_
  rintro e w6 ⟨rfl, h6⟩
  have HA6 := Lib.hid (HA5.out.below h6); have HT6 := Lib.hid (HT5.out.below h6); have HB6 := Lib.hid (HB5.out.trans (h6.mono HB5.out.size)); clear h6
  go_wp2_with fail
  refine (PSame_arg _ v v1 ps ps true HA6.out HT6.out HL.out (by simp)).mono ?_
  rintro e w7 ⟨rfl, h7⟩
  have HA7 := Lib.hid (HA6.out.below h7); have HB7 := Lib.hid (HB6.out.trans (h7.mono HB6.out.size)); clear h7
  go_wp2_with fail
  refine (PV_arg _ v ps false HA7.out HL.out HZ.out (by simp [HP.out])).mono ?_
  rintro e w8 ⟨rfl, h8⟩
  have HB8 := Lib.hid (HB7.out.trans (h8.mono HB7.out.size)); clear h8
  have hnil : ((⟨#[]⟩ : ByteArray) ++ (⟨#[]⟩ : ByteArray)).toList = [] := by rw [ByteArray.toList_eq]; simp
  go_wp2_with fail
  refine (awake2_any _ (HE.out.below HB8.out)).mono ?_
  rintro e w12 ⟨rfl, h12⟩
  have HB12 := Lib.hid (HB8.out.trans (h12.mono HB8.out.size)); clear h12
  go_wp2_with fail
  go_ret
  exact ⟨rfl, HB12.out⟩
theorem forms_yes (w : World) (v : Value) (ps : List Ins) (h : ArgP w v ps) (hl : ps.length * 48 ≤ 140737488351232) (hz : ∀ y ∈ ps, y.tree.length ≤ 140737488351232) (hE : Env w) :
    Calls Tryz.prog 3 #[v] w fun e w' => e = .returned (.bool true) ∧ Below w.heap.size w w' := by
  by_cases hp : PValid ps
  · exact forms_good w v ps h hl hz hp hE
  · exact forms_bad w v ps h hl hz hp hE
end Go.Proofs.YtlfoigkpfooopaaGreatDoor
