/- The statement UnivTowers, walked. By an AI agent. -/
import Derived.Test.YtmhoacnbmbhcjaaGreatDoorTowX
import Derived.Deep.DeepCutAuto
import Derived.Deep.RegionHeld3
import Derived.Test.YtmhoacnbmbhcjaaGreatDoorSameP
namespace Go.Proofs.YtmhoacnbmbhcjaaGreatDoor
open Go.RowKit Pl

theorem Tryz.infoProgU : (Tryz.prog.info? 23).map (fun i => (i.zero, i.size, i.bytes)) = some (some (.slice none 0 0), 1, 24) := by kernel_rfl
def OwnsU (w : World) (B : Nat) : List Value → List (List Ins) → Prop
  | [], [] => True
  | v :: vs, p :: ps => OwnP w B v p ∧ OwnsU w B vs ps
  | _, _ => False
theorem OwnsU.snoc {w : World} {B : Nat} : ∀ {vs : List Value} {pss : List (List Ins)} {v : Value} {p : List Ins}, OwnsU w B vs pss → OwnP w B v p → OwnsU w B (vs ++ [v]) (pss ++ [p])
  | [], [], _, _, _, h => ⟨h, trivial⟩
  | _ :: _, _ :: _, _, _, h, k => ⟨h.1, OwnsU.snoc h.2 k⟩
theorem OwnsU.args {w : World} {B : Nat} : ∀ {vs : List Value} {pss : List (List Ins)}, OwnsU w B vs pss → ArgsP w vs pss
  | [], [], _ => trivial
  | _ :: _, _ :: _, h => ⟨h.1.arg, OwnsU.args h.2⟩
theorem OwnsU.below {w w1 : World} {B : Nat} (hb : Below w.heap.size w w1) : ∀ {vs : List Value} {pss : List (List Ins)}, OwnsU w B vs pss → OwnsU w1 B vs pss
  | [], [], _ => trivial
  | _ :: _, _ :: _, h => ⟨h.1.below hb, OwnsU.below hb h.2⟩
theorem own_differU {w : World} {B B' n k size : Nat} {v u : Value} {e e' : TypeId} {xs vs : List Value} {s2 : Nat} (he : e ≠ e') (h : w.ownsRow B e size v n xs) (hr : w.ownsRow B' e' s2 u k vs) : v.ownBlock = none ∨ v.ownBlock ≠ u.ownBlock := by
  rcases h.2 with ⟨rfl, _⟩ | ⟨g, cap, cur, rfl, _, h1, _⟩
  · exact .inl rfl
  · rcases hr.2 with ⟨rfl, _⟩ | ⟨g2, cap2, cur2, rfl, _, h2, _⟩
    · exact .inr (by simp [Value.ownBlock])
    · refine .inr ?_
      simp only [Value.ownBlock, ne_eq, Option.some.injEq]
      rintro rfl
      rw [h1] at h2
      simp only [Option.some.injEq, Obj.cells.injEq] at h2
      exact he h2.2.1
theorem OwnsU.kept {w w1 : World} {B B' k : Nat} {u : Value} {us : List Value} (hr : w.ownsRow B' 23 1 u k us) (hg : w.grownBy w1 u.ownBlock) : ∀ {vs : List Value} {pss : List (List Ins)}, OwnsU w B vs pss → OwnsU w1 B vs pss
  | [], [], _ => trivial
  | _ :: _, _ :: _, h => ⟨World.ownsRow.kept h.1 hg (own_differU (by decide) h.1 hr), OwnsU.kept hr hg h.2⟩
theorem pieces_ownU {w : World} {B n : Nat} {u : Value} {vs : List Value} {pss : List (List Ins)} (h : w.ownsRow B 23 1 u n vs) (ha : ArgsP w vs pss) (h0 : 0 < n) : ∃ g cap, u = .slice (some ⟨g, 0, none⟩) n cap ∧ PiecesAt w g 0 pss := by
  obtain ⟨g, cap, hu⟩ : ∃ g cap, u = .slice (some ⟨g, 0, none⟩) n cap := by
    rcases h.2 with ⟨_, h1⟩ | ⟨g, cap, cur, h1, _⟩
    · omega
    · exact ⟨g, cap, h1⟩
  subst hu
  refine ⟨g, cap, rfl, (h.lt g rfl).2, fun k p hk => ?_⟩
  obtain ⟨v, h1, h2⟩ := ha.get k p hk
  have hc := h.cells (g := g) rfl k v h1
  rw [add_at] at hc
  exact ⟨v, by rw [Nat.zero_add]; exact hc, h2⟩
set_option maxHeartbeats 6400000 in
set_option maxRecDepth 100000 in
theorem UnivTowers_all (w : World) (hE : TabE w) (a : Option Addr) (cap : Nat) (pss : List (List Ins)) (x : ByteArray) (hc : LsA w a pss) (hm : pss.length * 24 ≤ 140737488355328) (hs : SzL pss) (hx : x.size ≤ 281474976710656) :
    Calls Tryz.prog 13 #[.slice a pss.length cap, .string x] w fun e w' => e = .returned (.bool true) ∧ Below w.heap.size w w' := by
  obtain ⟨i0, hi, hz0, hz1, hz2⟩ := info_parts Tryz.infoProgU
  have hn6 : pss.length ≤ 6000000000000 := by omega
  have HVX := Lib.hid (fun W => rValid_any x W hx)
  have HNO := Lib.hid (fun W (h : LsA W a pss) hn => Tower_no W a cap pss x h hn6 hs hx hn)
  have HYS := Lib.hid (fun W (h : LsA W a pss) hv hx => Tower_yes W a cap pss x h hn6 hv hx)
  have HRY := Lib.hid (fun W (h : LsA W a pss) hv hx => rTower_yes W a cap pss x h hn6 hv hx)
  have HC := Lib.hid hc; have HS := Lib.hid hs; have HE := Lib.hid hE
  generalize hnn : pss.length = n at *
  have HN := Lib.hid hnn
  clear hnn hc hs hE
  go_enter Tryz.func13, Tryz.ntmps13
  go_wp2_with fail
  refine (HVX.out _).mono ?_
  rintro e w0 ⟨rfl, rfl⟩
  have HXB : Hid (∃ b0, b0 = vld x.data.toList) := Lib.hid ⟨_, rfl⟩
  obtain ⟨b0, hb0⟩ := HXB.out
  rw [← hb0]
  have HX0 := Lib.hid hb0
  clear hb0 HXB
  go_wp2_with fail
  go_loopw [5, 6, 7] (fun v bv i wr => ∃ (k : Nat) (vs : List Value) (bb : Bool), k ≤ n ∧ i = .int .i64 k ∧ bv = .bool bb ∧ Hid (wr.ownsRow w.heap.size 23 1 v k vs) ∧ Hid (OwnsU wr w.heap.size vs (pss.take k)) ∧ Hid (bb = true ↔ (b0 = true ∧ ∀ j p, j < k → pss[j]? = some p → PValid p)) ∧ Hid (Below w.heap.size w wr)) (fun _ _ i _ => n - (intOf i).toNat)
  case atStart => exact ⟨0, [], b0, Nat.zero_le _, rfl, rfl, Lib.hid (World.ownsRow_nil _ _ _ _), Lib.hid trivial, Lib.hid (by simp), Lib.hid (Below.refl _ _)⟩
  case round =>
    obtain ⟨k, vs, bb, hk, rfl, rfl, HO, HA, HBB, HB⟩ := hrel
    have hsz := HB.out.size
    by_cases hlt : k < n
    · have hk1 : (k : Int) < (n : Int) := by omega
      obtain ⟨b, off, rfl, p, u, hp, hcell, hA⟩ := (HC.out.below HB.out).at (k := k) (by rw [HN.out]; exact hlt)
      have hsp := HS.out p (List.mem_of_getElem? hp)
      have HSP := Lib.hid hsp
      have HT := Lib.hid (Twin_arg wr u p hA hsp.1)
      have HP := Lib.hid hp
      obtain ⟨pa, pcap, rfl⟩ := hA.form
      clear hp hA hsp
      go_wp2_with fail
      refine HT.out.mono ?_
      rintro e w1 ⟨v1, rfl, ho1, h1⟩
      have ha1 : OwnP w1 w.heap.size v1 p := own_lower (base' := w.heap.size) ho1 hsz
      obtain ⟨a1, c1, rfl⟩ := ha1.arg.form
      have hb1 := Lib.hid (HB.out.trans (h1.mono hsz))
      have HA1 := Lib.hid ha1
      have HO1 := Lib.hid (own_below HO.out h1)
      have HAS1 := Lib.hid (HA.out.below h1)
      have hs1 := hb1.out.size
      clear ha1 ho1 h1 hsz hcell
      have hcells : ∀ j u, ([Value.slice a1 p.length c1] : List Value)[j]? = some u → (w1.alloc (.cells #[.slice a1 p.length c1] 23)).cell? ((⟨w1.heap.size, 0, none⟩ : Addr).add j) = some u := by
        intro j u hu
        rw [add_at, World.cell?_alloc_new]
        simpa using hu
      have HCE := Lib.hid hcells
      clear hcells
      have HAK : Hid (∀ (w2 : World) (u : Value) (kk : Nat) (us : List Value), (w1.alloc (.cells #[.slice a1 p.length c1] 23)).ownsRow w.heap.size 23 1 u kk us → (w1.alloc (.cells #[.slice a1 p.length c1] 23)).grownBy w2 u.ownBlock → OwnsU w2 w.heap.size (vs ++ [.slice a1 p.length c1]) (pss.take (k + 1))) := Lib.hid (fun w2 u kk us hrow hgrow => by
        rw [List.take_add_one, HP.out]
        have ab := alloc_below w1 (.cells #[.slice a1 p.length c1] 23)
        exact OwnsU.kept hrow hgrow ((OwnsU.below ab HAS1.out).snoc (HA1.out.below ab)))
      have hext : ∀ bb2 : Bool, (bb2 = true ↔ PValid p) → ((bb && bb2) = true ↔ (b0 = true ∧ ∀ j p, j < k + 1 → pss[j]? = some p → PValid p)) := fun bb2 h2 => by
        rw [Bool.and_eq_true]
        constructor
        · rintro ⟨e1, e2⟩
          refine ⟨(HBB.out.1 e1).1, fun j p' hj hp' => ?_⟩
          by_cases h : j = k
          · subst h
            have h3 := HP.out
            rw [hp'] at h3
            cases h3; exact h2.1 e2
          · exact (HBB.out.1 e1).2 j p' (by omega) hp'
        · rintro ⟨h0, h⟩
          exact ⟨HBB.out.2 ⟨h0, fun j p' hj hp' => h j p' (by omega) hp'⟩, h2.2 (h k p (by omega) HP.out)⟩
      obtain ⟨r, hr⟩ := pv_bool p
      have HX := Lib.hid (hext r hr)
      have HR := Lib.hid hr
      clear hext hr
      cases bb with
      | false =>
        go_wp2_with (at_builtin; refine wpList_append_own _ rfl _ _ 66 rfl w.heap.size 23 i0 (.slice none 0 0) 1 24 Tryz.underlying66 hi hz0 hz1 hz2 rfl (by decide) _ k vs rfl (HO1.out.alloc _) ⟨w1.heap.size, 0, none⟩ 1 1 [.slice a1 p.length c1] rfl rfl HCE.out (by intro u hu; simp at hu; subst hu; rfl) (by unfold maxLen; omega) (by omega) (by simp; omega) ?_; intro v2 w2 hown hgrow hnil; have hb2 : Below w.heap.size w w2 := (hb1.out.alloc hs1 _).grown hgrow (by simp; omega) (fun g h => ((HO1.out.alloc (.cells #[.slice a1 p.length c1] 23)).lt g h).1); have HAS2 := Lib.hid (HAK.out _ _ _ _ (HO1.out.alloc _) hgrow); have HO2 := Lib.hid hown; have HB2 := Lib.hid hb2; clear hown hgrow hnil hb2)
        go_roundw
        case rel => exact ⟨k + 1, _, false, by omega, by go_num, rfl, HO2, HAS2, Lib.hid (by simpa using HX.out), HB2⟩
        case measure => simp [intOf]; omega
      | true =>
        go_wp2_with (at_builtin; refine wpList_append_own _ rfl _ _ 66 rfl w.heap.size 23 i0 (.slice none 0 0) 1 24 Tryz.underlying66 hi hz0 hz1 hz2 rfl (by decide) _ k vs rfl (HO1.out.alloc _) ⟨w1.heap.size, 0, none⟩ 1 1 [.slice a1 p.length c1] rfl rfl HCE.out (by intro u hu; simp at hu; subst hu; rfl) (by unfold maxLen; omega) (by omega) (by simp; omega) ?_; intro v2 w2 hown hgrow hnil; have hb2 : Below w.heap.size w w2 := (hb1.out.alloc hs1 _).grown hgrow (by simp; omega) (fun g h => ((HO1.out.alloc (.cells #[.slice a1 p.length c1] 23)).lt g h).1); have HAS2 := Lib.hid (HAK.out _ _ _ _ (HO1.out.alloc _) hgrow); have HO2 := Lib.hid hown; have HB2 := Lib.hid hb2; clear hown hgrow hnil hb2; obtain ⟨b9, off9, he9, p9, u9, hp9, hcell9, hA9⟩ := (HC.out.below HB2.out).at (k := k) (by rw [HN.out]; exact hlt); cases he9; obtain rfl : p9 = p := Option.some.inj (hp9.symm.trans HP.out); have HV := Lib.hid (PV_arg w2 u9 p9 r hA9 (by have := HSP.out.1; omega) HSP.out.2 HR.out); obtain ⟨pa9, pcap9, rfl⟩ := hA9.form; clear hp9 hA9)
        refine HV.out.mono ?_
        rintro e w4 ⟨rfl, h4⟩
        have HO4 := Lib.hid (own_below HO2.out h4); have HAS4 := Lib.hid (HAS2.out.below h4); have HB4 := Lib.hid (bstep HB2.out h4)
        clear h4
        go_wp2_with fail
        go_roundw
        case rel => exact ⟨k + 1, _, r, by omega, by go_num, rfl, HO4, HAS4, Lib.hid (by simpa using HX.out), HB4⟩
        case measure => simp [intOf]; omega
    · obtain rfl : k = n := by omega
      have HF : Hid (OwnsU wr w.heap.size vs pss) := Lib.hid (by have h := HA.out; rwa [List.take_of_length_le (by rw [HN.out]; exact Nat.le_refl _)] at h)
      have HALL : Hid (bb = true ↔ (b0 = true ∧ ∀ p ∈ pss, PValid p)) := Lib.hid (HBB.out.trans ⟨fun ⟨h0, h⟩ => ⟨h0, fun p hp => by
        obtain ⟨j, hj⟩ := List.mem_iff_getElem?.1 hp
        exact h j p (by have := (List.getElem?_eq_some_iff.1 hj).1; have := HN.out; omega) hj⟩, fun ⟨h0, h⟩ => ⟨h0, fun j p _ hp => h p (List.mem_of_getElem? hp)⟩⟩)
      clear HA HBB
      have HTW : Hid (∀ W, LsA W a pss → Calls Tryz.prog 48 #[.slice a k cap, .string x] W fun e w' => Below W.heap.size W w' ∧ ∃ s1 e1, e = .returned (.tuple #[.string s1, .int .i64 e1]) ∧ ((bb = false ∧ s1 = ⟨#[]⟩ ∧ e1 = 1) ∨ (bb = true ∧ (towB pss).length + x.size ≤ 2000000 ∧ s1 = S (towB pss ++ x.data.toList) ∧ e1 = 0) ∨ (bb = true ∧ ¬ (towB pss).length + x.size ≤ 2000000 ∧ s1 = ⟨#[]⟩ ∧ e1 = 3))) := Lib.hid (fun W h => by
        cases bb with
        | false =>
          refine (HNO.out W h ?_).mono fun e w' ⟨h1, h2⟩ => ⟨h2, _, _, h1, .inl ⟨rfl, rfl, rfl⟩⟩
          by_cases hv : ∀ p ∈ pss, PValid p
          · right
            cases hx0 : vld x.data.toList with
            | false => rfl
            | true => have := HALL.out.2 ⟨by rw [HX0.out, hx0], hv⟩; cases this
          · exact .inl hv
        | true =>
          obtain ⟨h0, hv⟩ := HALL.out.1 rfl
          refine (HYS.out W h hv (by rw [← HX0.out]; exact h0)).mono fun e w' ⟨h1, h2⟩ => ⟨h2, ?_⟩
          rcases h1 with ⟨hf, he⟩ | ⟨hf, he⟩
          · exact ⟨_, _, he, .inr (.inl ⟨rfl, hf, rfl, rfl⟩)⟩
          · exact ⟨_, _, he, .inr (.inr ⟨rfl, hf, rfl, rfl⟩)⟩)
      have HRT : Hid (bb = true → ∀ W, LsA W a pss → Calls Tryz.prog 50 #[.slice a k cap, .string x] W fun e w' => TowP pss x e (.bool true) (.bool false) ∧ Below W.heap.size W w') := Lib.hid (fun h W hc => by
        obtain ⟨h0, hv⟩ := HALL.out.1 h
        exact HRY.out W hc hv (by rw [← HX0.out]; exact h0))
      clear HALL
      go_wp2_with fail
      refine (HTW.out _ (HC.out.below HB.out)).mono ?_
      rintro e w3 ⟨h3, s1, e1, rfl, hres⟩
      have HO3 := Lib.hid (own_below HO.out h3); have HF3 := Lib.hid (HF.out.below h3); have HB3 := Lib.hid (bstep HB.out h3)
      have HRES := Lib.hid hres
      clear h3 hres HTW
      go_wp2_with fail
      go_loopw [10] (fun i wr => ∃ j : Nat, j ≤ k ∧ i = .int .i64 j ∧ Hid (Below w3.heap.size w3 wr)) (fun i _ => k - (intOf i).toNat)
      case atStart => exact ⟨0, Nat.zero_le _, rfl, Lib.hid (Below.refl _ _)⟩
      case round =>
        clear HO HF HB
        obtain ⟨j, hj, rfl, HB⟩ := hrel
        have HBW := Lib.hid (HB3.out.trans (HB.out.mono HB3.out.size))
        by_cases hlt : j < k
        · have hj1 : (j : Int) < (k : Int) := by omega
          obtain ⟨b, off, rfl, p, u, hp, hcell, hA⟩ := (HC.out.below HBW.out).at (k := j) (by rw [HN.out]; exact hlt)
          obtain ⟨g, cap2, rfl, hpc⟩ := pieces_ownU HO3.out HF3.out.args (by omega)
          obtain ⟨u2, hcell2, hA2⟩ := (hpc.below HB.out).piece j p hp
          rw [Nat.zero_add] at hcell2
          have HSM := Lib.hid (fun W (h : Below wr.heap.size wr W) => PSame_arg W u u2 p p true (hA.below h) (hA2.below h) (by have := (HS.out p (List.mem_of_getElem? hp)).1; omega) (by simp))
          obtain ⟨pa, pcap, rfl⟩ := hA.form
          obtain ⟨pa2, pcap2, rfl⟩ := hA2.form
          have C1 := Lib.hid hcell; have C2 := Lib.hid hcell2
          clear hp hA hA2 hpc
          generalize p.length = q at *
          go_wp2_with fail
          go_region_held3 (fun w' => w'.cell? ⟨b, off + j, none⟩ = some (.slice pa q pcap) ∧ w'.cell? ⟨g, j, none⟩ = some (.slice pa2 q pcap2)) (first | exact ⟨C1.out, C2.out⟩ | exact ⟨k1, k2⟩ | go_keep)
            (first
              | (go_simp; go_at_call 21; refine (HSM.out _ (by first | exact Below.refl _ _ | exact (Below.refl _ _).drew)).mono ?_; rintro e w8 ⟨rfl, h8⟩; have k1 := cell_keep h8 C1.out; have k2 := cell_keep h8 C2.out))
          have HB8 := Lib.hid (bstep (HB.out.drew) h8)
          clear h8 k1 k2
          go_wp2
          go_roundw
          case rel => exact ⟨j + 1, by omega, by go_num, HB8⟩
          case measure => simp [intOf]; omega
        · obtain rfl : j = k := by omega
          have HAW := Lib.hid (fun W (hb : Below w.heap.size w W) => awake6_any W (HE.out.below hb))
          have HCW := Lib.hid (HC.out.below HBW.out)
          rcases HRES.out with ⟨rfl, rfl, rfl⟩ | ⟨rfl, hf, rfl, rfl⟩ | ⟨rfl, hf, rfl, rfl⟩
          · clear HRES HRT
            go_wp2_with fail
            refine (HAW.out _ HBW.out).mono ?_
            rintro e w9 ⟨rfl, h9⟩
            have HB9 := Lib.hid (bstep HBW.out h9)
            clear h9
            go_wp2_with fail
            go_ret
            exact ⟨rfl, HB9.out⟩
          · have HFT := Lib.hid hf
            clear hf HRES
            go_wp2_with fail
            refine (HRT.out (by first | rfl | trivial) _ HCW.out).mono ?_
            rintro e w8 ⟨⟨_, rfl⟩ | ⟨hno, _⟩, h8⟩
            · have HB8 := Lib.hid (bstep HBW.out h8)
              clear h8
              go_wp2_with fail
              refine (HAW.out _ HB8.out).mono ?_
              rintro e w9 ⟨rfl, h9⟩
              have HB9 := Lib.hid (bstep HB8.out h9)
              clear h9
              go_wp2_with fail
              go_ret
              exact ⟨rfl, HB9.out⟩
            · exact absurd HFT.out hno
          · have HFT := Lib.hid hf
            clear hf HRES
            go_wp2_with fail
            refine (HRT.out (by first | rfl | trivial) _ HCW.out).mono ?_
            rintro e w8 ⟨⟨hyes, _⟩ | ⟨_, rfl⟩, h8⟩
            · exact absurd hyes HFT.out
            · have HB8 := Lib.hid (bstep HBW.out h8)
              clear h8
              go_wp2_with fail
              refine (HAW.out _ HB8.out).mono ?_
              rintro e w9 ⟨rfl, h9⟩
              have HB9 := Lib.hid (bstep HB8.out h9)
              clear h9
              go_wp2_with fail
              go_ret
              exact ⟨rfl, HB9.out⟩
end Go.Proofs.YtmhoacnbmbhcjaaGreatDoor
