/- The contract of Depth of the reference. By an AI agent. -/
import Derived.Test.YtkodkimdhalpcaaDepth
import Derived.Test.YtkodkimdhalpcaaMathE
import Derived.Test.YtkodkimdhalpcaaNumber
import Derived.Deep.RegionHeld3
namespace Go.Proofs.Ytkodkimdhalpcaa
open Go.RowKit Pl

set_option maxHeartbeats 3200000 in
set_option maxRecDepth 100000 in
theorem rDepth_yes (s : ByteArray) (w : World) (hv : vld s.data.toList = true) :
    Calls Try.prog 24 #[.string s] w fun e w' => e = .returned (.int .i64 (dep s.data.toList)) ∧ Below w.heap.size w w' := by
  obtain ⟨i0, hi, hz0, hz1, hz2⟩ := info_parts Try.infoInt
  have hs := vld_size hv
  have hf := (vld_iff.1 hv).2
  have HF := Lib.hid hf
  go_enter Try.func24, Try.ntmps24
  go_wp2
  go_loopw [3, 4] (fun v i wr => ∃ j : Nat, j ≤ s.size ∧ i = .int .i64 ((j : Int) - 1) ∧ wr.ownsRow w.heap.size 3 1 v (ds (s.data.toList.drop j)).length (cellsOf (ds (s.data.toList.drop j))) ∧ Below w.heap.size w wr) (fun _ i _ => (intOf i + 1).toNat)
  case atStart => exact ⟨s.size, Nat.le_refl _, rfl, by rw [List.drop_of_length_le (by rw [len_eq]; exact Nat.le_refl _)]; exact World.ownsRow_nil _ _ _ _, Below.refl _ _⟩
  case round =>
    obtain ⟨j, hj, rfl, hown, hbw⟩ := hrel
    have hsz := hbw.size
    cases j with
    | zero =>
      rw [List.drop_zero, ds_one HF.out] at hown
      rcases own_stack hown with ⟨_, h0⟩ | ⟨g, cap, rfl, _, hk⟩
      · cases h0
      · have hcell : wr.cell? ⟨g, 0, none⟩ = some (.int .i64 (dep s.data.toList)) := (hk _ _ rfl).1
        clear hown hk
        generalize hdd : dep s.data.toList = dd at *
        have HDD := Lib.hid hdd; clear hdd
        rw [show [dd].length = 1 from rfl]
        go_wp2
        go_ret
        exact ⟨ret_int (by rw [HDD.out]), hbw⟩
    | succ k =>
      rw [show ((k + 1 : Nat) : Int) - 1 = (k : Int) from by omega]
      have hk : k < s.size := hj
      have hkl : k < s.data.toList.length := by rw [len_eq]; exact hk
      have hfew := ds_few HF.out (k + 1) (by rw [len_eq]; exact hj)
      rw [len_eq] at hfew
      rcases ds_at HF.out hkl with ⟨hc, hds⟩ | ⟨hc, a, b, q, hq, hds⟩
      · have hc' : s[k] = 48 := hc
        have HD := Lib.hid hds
        clear hds hc
        generalize ds (s.data.toList.drop (k + 1)) = st at *
        go_wp2_with (at_builtin; refine wpList_append_own _ rfl _ _ 49 rfl w.heap.size 3 i0 (.int .i64 0) 1 8 Try.underlying49 hi hz0 hz1 hz2 rfl (by decide) _ _ _ rfl (hown.alloc _) ⟨wr.heap.size, 0, none⟩ 1 1 [.int .i64 0] rfl rfl ?c1 ?c2 ?c3 ?c4 ?c5 ?_)
        case c1 =>
          intro t u ht
          match t, ht with
          | 0, ht => simp at ht; subst ht; simp [Addr.add]
        case c2 => intro u hu; simp at hu; subst hu; rfl
        case c3 => unfold maxLen; omega
        case c4 => omega
        case c5 => simp; omega
        intro v' w1 hown' hgrow _
        have hb1 := app_below hbw hsz hown hgrow
        have ho : w1.ownsRow w.heap.size 3 1 v' (ds (s.data.toList.drop k)).length (cellsOf (ds (s.data.toList.drop k))) := by
          rw [HD.out, cellsOf_cons]; exact hown'
        have HO := Lib.hid ho
        clear ho hown' hgrow hown hbw
        go_wp2
        go_roundw
        case rel => exact ⟨k, by omega, rfl, HO.out, hb1⟩
        case measure => simp [intOf]
      · have hc' : s[k] = 49 := hc
        have hab := ds_small (L := s.data.toList) (k + 1)
        rw [hq] at hab hown hfew
        have ha := hab a (by simp)
        have hb := hab b (by simp)
        rw [len_eq] at ha hb
        have HD := Lib.hid hds
        clear hds hc hq hab
        rcases own_stack hown with ⟨_, h0⟩ | ⟨g, cap, rfl, hcap, hk1⟩
        · cases h0
        · obtain ⟨cell1, own1⟩ := hk1 _ _ rfl
          rcases own_stack own1 with ⟨_, h0⟩ | ⟨g2, cap2, hg, hcap2, hk2⟩
          · cases h0
          · injection hg with e1 e2 e3
            injection e1 with e1
            injection e1 with e1
            subst e1; subst e3
            obtain ⟨cell2, own2⟩ := hk2 _ _ rfl
            clear hk1 hk2 own1 hown hcap2
            simp only [List.length_cons] at cell1 hcap hfew ⊢
            generalize hqn : q.length = qn at *
            have HQ := Lib.hid hqn; clear hqn
            obtain ⟨n, hn⟩ : ∃ n, qn + 1 + 1 = n := ⟨_, rfl⟩
            rw [hn] at hcap hfew ⊢
            rw [show qn + 1 = n - 1 from by omega] at cell1
            rw [show qn = n - 2 from by omega] at cell2
            have m0 : 2 ≤ n := by omega
            have m5 : (1 : Int) ≤ (n : Int) := by omega
            have m6 : (2 : Int) ≤ (n : Int) := by omega
            have m1 : (0 : Int) ≤ (n : Int) - 1 := by omega
            have m2 : (n : Int) - 1 < (n : Int) := by omega
            have m3 : (0 : Int) ≤ (n : Int) - 2 := by omega
            have m4 : (n : Int) - 2 < (n : Int) := by omega
            have s1 : ((n : Int) - 1).toNat = n - 1 := by omega
            have s2 : ((n : Int) - 2).toNat = n - 2 := by omega
            have wr1 : IntKind.i64.wrap ((n : Int) - 1) = (n : Int) - 1 := IntWalk.i64_in _ (by omega)
            have wr2 : IntKind.i64.wrap ((n : Int) - 2) = (n : Int) - 2 := IntWalk.i64_in _ (by omega)
            have wr3 : IntKind.i64.wrap (1 + max (a : Int) (b : Int)) = 1 + max (a : Int) (b : Int) := IntWalk.i64_in _ (by omega)
            rw [show qn = n - 2 from by omega] at own2 HQ
            have hql : q.length = n - 2 := HQ.out
            have hcast : (1 + max (a : Int) (b : Int)) = ((1 + max a b : Nat) : Int) := by omega
            have HCA := Lib.hid hcast
            have OWN := Lib.hid own2
            clear hn hql hcast own2
            go_wp2_with fail
            go_region_held3 (fun w' => w'.cell? ⟨g, n - 1, none⟩ = some (.int .i64 (a : Int)) ∧ w'.cell? ⟨g, n - 2, none⟩ = some (.int .i64 (b : Int))) (go_keep) (fail)
            clear cell1 cell2 wr1 wr2
            go_wp2_with (at_builtin; refine wpList_append_own _ rfl _ _ 49 rfl w.heap.size 3 i0 (.int .i64 0) 1 8 Try.underlying49 hi hz0 hz1 hz2 rfl (by decide) _ _ _ rfl (OWN.out.drew.alloc _) ⟨wr.heap.size, 0, none⟩ 1 1 [.int .i64 (1 + max (a : Int) (b : Int))] rfl rfl ?d1 ?d2 ?d3 ?d4 ?d5 ?_)
            case d1 =>
              intro t u ht
              match t, ht with
              | 0, ht => simp at ht; subst ht; simp [Addr.add]
            case d2 => intro u hu; simp at hu; subst hu; rfl
            case d3 => unfold maxLen; omega
            case d4 => omega
            case d5 => simp; omega
            intro v' w1 hown' hgrow _
            have hb1 : Below w.heap.size w w1 := app_below hbw.drew hsz OWN.out.drew hgrow
            have ho : w1.ownsRow w.heap.size 3 1 v' (ds (s.data.toList.drop k)).length (cellsOf (ds (s.data.toList.drop k))) := by
              rw [HD.out, cellsOf_cons, List.length_cons, HQ.out, ← HCA.out]; exact hown'
            have HO := Lib.hid ho
            clear ho hown' hgrow hbw
            go_wp2
            go_roundw
            case rel => exact ⟨k, by omega, rfl, HO.out, hb1⟩
            case measure => simp [intOf]
end Go.Proofs.Ytkodkimdhalpcaa
