/- BuildThens: its walk. By an AI agent. -/
import Derived.Test.YtmhoacnbmbhcjabMakes
namespace Go.Proofs.Ytmhoacnbmbhcjab
open Go.RowKit Pl

set_option maxHeartbeats 3200000 in
set_option maxRecDepth 100000 in
theorem rThen_some (w : World) (b off cap : Nat) (pss : List (List Ins)) (hc : PiecesAt w b off pss) (h0 : 0 < pss.length) (hm : pss.length ≤ 6000000000000) (hv : ∀ p ∈ pss, PValid p) (hz : (thenL pss).length * 48 ≤ 140737488355328) :
    Calls Try.prog 32 #[.slice (some ⟨b, off, none⟩) pss.length cap] w fun e w' => ∃ u, e = .returned u ∧ ArgP w' u (thenL pss) ∧ Below w.heap.size w w' := by
  have HLE := Lib.hid (thenTo_le pss)
  have HZ := Lib.hid hz
  generalize hnn : pss.length = n at *
  have HN := Lib.hid hnn; have HC := Lib.hid hc; have HV := Lib.hid hv
  obtain ⟨p0, hp0⟩ := piece_at (pss := pss) (k := 0) (by omega)
  obtain ⟨u0, hcell0, hA0⟩ := hc.piece 0 p0 hp0
  have HCELL0 : Hid (w.cell? ⟨b, off, none⟩ = some u0) := Lib.hid hcell0
  have HA0 := Lib.hid (fun W (h : Below w.heap.size w W) => hA0.below h)
  have HP0 := Lib.hid hp0
  obtain ⟨pa0, pcap0, rfl⟩ := hA0.form
  have hbw := hc.lt
  clear hnn hc hv hz hp0 hcell0 hA0
  go_enter Try.func32, Try.ntmps32
  go_wp2
  go_loopw [3, 4] (fun v i wr => ∃ k : Nat, k ≤ n ∧ i = .int .i64 k ∧ Hid (OwnP wr w.heap.size v (thenTo pss k)) ∧ Below w.heap.size w wr) (fun _ i _ => n - (intOf i).toNat)
  case atStart => exact ⟨0, Nat.zero_le _, rfl, Lib.hid (by have := own_nilP w w.heap.size; simpa [thenTo, thenL] using this), Below.refl _ _⟩
  case round =>
    obtain ⟨k, hk, rfl, HO, hb⟩ := hrel
    have hsz := hb.size
    by_cases hlt : k < n
    · have hk1 : (k : Int) < (n : Int) := by omega
      rcases Nat.eq_zero_or_pos k with h0k | h0k
      · have HE : Hid (thenTo pss (k + 1) = p0) := Lib.hid (by rw [h0k]; exact thenTo_one HP0.out)
        have HE0 : thenTo pss k = [] := by rw [h0k]; simp [thenTo, thenL]
        rw [HE0] at HO
        have hk0 : ((k : Int) == 0) = true := by simp [h0k]
        have hn0 : (0 : Int) < (n : Int) := by omega
        have hcell := (hb.cell (p := ⟨b, off, none⟩) hbw).trans HCELL0.out
        have hl0 : p0.length ≤ 4000 := (HV.out p0 (List.mem_of_getElem? HP0.out)).1
        clear HE0 h0k
        go_wp2_with (at_builtin; refine wpList_app_prog rfl _ _ rfl w.heap.size _ 0 [] rfl HO.out _ rfl p0 (HA0.out _ hb) (by omega) hsz ?_; intro v' w' hown hgrow)
        have hb12 : Below w.heap.size w w' := hb.grown hgrow hsz (fun g h => (HO.out.lt g h).1)
        have HO2 : Hid (OwnP w' w.heap.size v' (thenTo pss (k + 1))) := Lib.hid (by rw [HE.out]; unfold OwnP; simpa using hown)
        clear hown hgrow hb HO hcell
        go_wp2_with fail
        go_roundw
        case rel => exact ⟨k + 1, by omega, by go_num, HO2, hb12⟩
        case measure => simp [intOf]; omega
      · obtain ⟨p, hp⟩ := piece_at (pss := pss) (k := k) (by rw [HN.out]; exact hlt)
        obtain ⟨u, hcell, hA⟩ := (HC.out.below hb).piece k p hp
        have HCL := Lib.hid (rclean_any wr u p hA (HV.out p (List.mem_of_getElem? hp)))
        have HE := Lib.hid (thenTo_succ hp h0k)
        obtain ⟨pa, pcap, rfl⟩ := hA.form
        have hk0 : ((k : Int) == 0) = false := by rw [beq_eq_false_iff_ne]; omega
        have HB : Hid (((thenTo pss k).length + (behind p).length) * 48 ≤ 140737488355328) := Lib.hid (by
          have h1 := HLE.out (k + 1)
          rw [HE.out, List.length_append] at h1
          have := HZ.out
          omega)
        clear hp hA h0k
        go_wp2_with fail
        refine HCL.out.mono ?_
        rintro e w1 ⟨u1, rfl, ho1, h1⟩
        obtain ⟨a1, c1, rfl⟩ := ho1.form
        have HA1 := Lib.hid ho1.arg
        have HO1 := Lib.hid (HO.out.below h1)
        have hb1 := Lib.hid (hb.trans (h1.mono hsz))
        clear ho1 h1 hb hcell HO
        go_wp2_with (at_builtin; refine wpList_app_prog rfl _ _ rfl w.heap.size _ (thenTo pss k).length (progV (thenTo pss k)) rfl HO1.out _ rfl (behind p) HA1.out HB.out hb1.out.size ?_; intro v' w' hown hgrow)
        have hb2 : Below w.heap.size w w' := hb1.out.grown hgrow hb1.out.size (fun g h => (HO1.out.lt g h).1)
        have HO2 : Hid (OwnP w' w.heap.size v' (thenTo pss (k + 1))) := Lib.hid (by rw [HE.out]; exact OwnP.grow hown)
        clear hown hgrow HO1
        go_wp2_with fail
        go_roundw
        case rel => exact ⟨k + 1, by omega, by go_num, HO2, hb2⟩
        case measure => simp [intOf]; omega
    · obtain rfl : k = n := by omega
      have HT : Hid (thenTo pss k = thenL pss) := Lib.hid (thenTo_all (by rw [HN.out]; exact Nat.le_refl _))
      rw [HT.out] at HO
      go_wp2_with fail
      go_ret
      exact ⟨_, rfl, HO.out.arg, hb⟩
set_option maxHeartbeats 800000 in
set_option maxRecDepth 100000 in
theorem rThen_none (w : World) (a : Option Addr) (cap : Nat) : Calls Try.prog 32 #[.slice a 0 cap] w fun e w' => e = .returned (.slice none 0 0) ∧ w' = w := by
  go_enter Try.func32, Try.ntmps32
  go_wp2
  go_loop [3, 4] (fun v i => v = .slice none 0 0 ∧ i = .int .i64 0) (fun _ _ => 0)
  case atStart => exact ⟨rfl, rfl⟩
  case round =>
    obtain ⟨rfl, rfl⟩ := hrel
    go_wp2
    go_ret
    exact ⟨rfl, rfl⟩
set_option maxHeartbeats 800000 in
set_option maxRecDepth 100000 in
theorem alike4_none (w : World) (a b : Option Addr) (c d : Nat) : Calls Try.prog 25 #[.slice a 0 c, .slice b 0 d] w fun e w' => e = .returned (.bool true) ∧ w' = w := by
  go_enter Try.func25, Try.ntmps25
  go_wp2
  go_loop [5] (fun i => i = .int .i64 0) (fun _ => 0)
  case atStart => rfl
  case round =>
    subst hrel
    go_wp2
    go_ret
    exact ⟨rfl, rfl⟩
set_option maxHeartbeats 800000 in
set_option maxRecDepth 100000 in
theorem due_none (w : World) (a : Option Addr) (c : Nat) : Calls Try.prog 12 #[.slice a 0 c, .slice none 0 0] w fun e w' => e = .returned (.int .i64 0) ∧ Below w.heap.size w w' := by
  have HF := Lib.hid (fun W => fits_any W (.slice none 0 0) [] true (nil_arg W) (by simp) (by simp) (by simp [FitsP, trees]))
  go_enter Try.func12, Try.ntmps12
  go_wp2
  go_loop [5] (fun i => i = .int .i64 0) (fun _ => 0)
  case atStart => rfl
  case round =>
    subst hrel
    go_wp2
    go_loop [6] (fun i => i = .int .i64 0) (fun _ => 0)
    case atStart => rfl
    case round =>
      subst hrel
      go_wp2_with fail
      refine (HF.out _).mono ?_
      rintro e w1 ⟨rfl, h1⟩
      go_wp2
      go_ret
      exact ⟨rfl, h1⟩
set_option maxHeartbeats 800000 in
set_option maxRecDepth 100000 in
theorem bregs_none (w : World) (a : Option Addr) (cap : Nat) :
    Calls Try.prog 59 #[.slice a 0 cap] w fun e w' => ∃ g, e = .returned (.tuple #[.slice (some ⟨g, 0, none⟩) 0 0, .int .i64 0]) ∧ Below w.heap.size w w' := by
  obtain ⟨i0, hi, hz0, hz1, hz2⟩ := info_parts Try.infoInt
  go_enter Try.func59, Try.ntmps59
  go_wp2_with (at_make; refine wpList_make_full _ rfl _ _ 89 rfl w.heap.size 3 i0 (.int .i64 0) 1 Try.underlying89 hi hz0 hz1 .i64 .i64 _ _ 0 rfl rfl rfl rfl (by rw [hz2]; omega) (by unfold maxLen; omega) (Nat.le_refl _) ?_)
  intro w1 hown hgrow
  have hb1 : Below w.heap.size w w1 := (Below.refl _ _).grown hgrow (Nat.le_refl _) (by simp)
  clear hown hgrow hi hz0 hz1 hz2
  go_wp2
  go_loopw [16] (fun i wr => i = .int .i64 0 ∧ wr = w1) (fun _ _ => 0)
  case atStart => exact ⟨rfl, rfl⟩
  case round =>
    obtain ⟨rfl, rfl⟩ := hrel
    go_wp2
    go_loopw [36] (fun i w2 => i = .int .i64 0 ∧ w2 = wr) (fun _ _ => 0)
    case atStart => exact ⟨rfl, rfl⟩
    case round =>
      obtain ⟨rfl, rfl⟩ := hrel
      go_wp2
      go_ret2
      exact ⟨_, rfl, hb1⟩
set_option maxHeartbeats 1600000 in
set_option maxRecDepth 100000 in
theorem Then_none (w : World) (a : Option Addr) (cap : Nat) :
    Calls Try.prog 17 #[.slice a 0 cap] w fun e w' => ∃ v, e = .returned (.tuple #[v, .int .i64 0]) ∧ ArgP w' v [] ∧ Below w.heap.size w w' := by
  have HR := Lib.hid (bregs_none w a cap)
  go_enter Try.func17, Try.ntmps17
  go_wp2_with fail
  refine HR.out.mono ?_
  rintro e w1 ⟨g, rfl, h1⟩
  go_wp2_with fail
  go_loopw [6, 19] (fun v i wr => v = .slice none 0 0 ∧ i = .int .i64 0 ∧ wr = w1) (fun _ _ _ => 0)
  case atStart => exact ⟨rfl, rfl, rfl⟩
  case round =>
    obtain ⟨rfl, rfl, rfl⟩ := hrel
    have HJ := Lib.hid (join_any _ wr.heap.size 0 1 [[]] [] rfl (lit_pieces wr [.slice none 0 0] [[]] ⟨nil_arg _, trivial⟩) (by simp) (by simp) (by simp))
    have hb1 := Lib.hid (h1.alloc h1.size (.cells #[.slice none 0 0] 23))
    go_wp2_with fail
    refine HJ.out.mono ?_
    rintro e w4 ⟨h4, hJ⟩
    rcases hJ with ⟨_, v, rfl, hA⟩ | ⟨hn, _⟩
    · have HA := Lib.hid hA
      have hb4 := Lib.hid (bstep hb1.out h4)
      clear hA h4
      go_wp2_with fail
      go_ret2
      exact ⟨v, rfl, HA.out, hb4.out⟩
    · exact absurd pNil_valid hn
set_option maxHeartbeats 1600000 in
set_option maxRecDepth 100000 in
theorem thens_none (w : World) (a : Option Addr) (cap : Nat) :
    Calls Try.prog 5 #[.slice a 0 cap] w fun e w' => e = .returned (.bool true) ∧ Below w.heap.size w w' := by
  go_enter Try.func5, Try.ntmps5
  go_wp2_with fail
  refine (copied4_none _ a cap).mono ?_
  rintro e w1 ⟨rfl, rfl⟩
  go_wp2_with fail
  refine (Then_none _ a cap).mono ?_
  rintro e w2 ⟨v, rfl, hA, h2⟩
  obtain ⟨av, cv, rfl⟩ := hA.form
  have HA := Lib.hid hA
  clear hA
  go_wp2_with fail
  refine (alike4_none _ a none cap 0).mono ?_
  rintro e w3 ⟨rfl, rfl⟩
  go_wp2_with fail
  go_loopw [7, 8] (fun v i wr => v = .bool true ∧ i = .int .i64 0 ∧ wr = w3) (fun _ _ _ => 0)
  case atStart => exact ⟨rfl, rfl, rfl⟩
  case round =>
    obtain ⟨rfl, rfl, rfl⟩ := hrel
    go_wp2_with fail
    refine (rThen_none _ a cap).mono ?_
    rintro e w4 ⟨rfl, rfl⟩
    go_wp2_with fail
    refine (due_none _ a cap).mono ?_
    rintro e w5 ⟨rfl, h5⟩
    have hb5 := Lib.hid (bstep h2 h5)
    have HA5 := Lib.hid (HA.out.below h5)
    clear h5
    go_wp2_with fail
    refine (told_ok _ _ _ [] HA5.out (nil_arg _) (by simp)).mono ?_
    rintro e w6 ⟨rfl, h6⟩
    have hb6 := Lib.hid (bstep hb5.out h6)
    clear h6
    go_wp2_with fail
    refine (awake4_any _).mono ?_
    rintro e w7 ⟨rfl, h7⟩
    have hb7 := Lib.hid (bstep hb6.out h7)
    go_wp2
    go_ret
    exact ⟨rfl, hb7.out⟩
theorem sz_mk' {P : Prop} {L : List Ins} (h : P → TB L ∧ L.length ≤ 281474976710656) : (mk P L).length ≤ 281474976710656 ∧ ∀ x ∈ mk P L, x.tree.length ≤ 281474976710656 := by
  by_cases hp : P
  · rw [mk_yes hp]
    obtain ⟨h1, h2⟩ := h hp
    exact ⟨h2, fun x hx => by have := h1 x hx; omega⟩
  · rw [mk_no hp]; simp
theorem tb_then {l : List (List Ins)} (h : ∀ p ∈ l, PValid p) : TB (thenL l) := fun x hx => thenTo_mem (l := l) (k := l.length) h (by rw [thenTo_all (Nat.le_refl _)]; exact hx)
theorem told_any2 (w : World) (v vm : Value) (er due : Int) (cs made : List Ins) (h : GotP w v er due cs) (hm : ArgP w vm made) (he : due = 0 → made = cs) (hl : due = 0 → cs.length ≤ 281474976710656) :
    Calls Try.prog 31 #[v, .int .i64 er, .int .i64 due, vm] w fun e w' => e = .returned (.bool true) ∧ Below w.heap.size w w' := by
  obtain ⟨rfl, _, h1, h2⟩ := h
  by_cases hd : er = 0
  · subst hd
    obtain rfl := he rfl
    exact told_ok w v vm made (h1 rfl) hm (hl rfl)
  · obtain ⟨a, c, hf⟩ := hm.form
    rw [h2 hd]
    exact told_no w vm er hd ⟨_, _, _, hf⟩
set_option maxHeartbeats 6400000 in
set_option maxRecDepth 100000 in
theorem thens_some (w : World) (b off cap : Nat) (pss : List (List Ins)) (hc : PiecesAt w b off pss) (h0 : 0 < pss.length) (hm : pss.length * 24 ≤ 140737488355328) (hs : ∀ p ∈ pss, p.length * 48 ≤ 140737488355328 ∧ ∀ x ∈ p, x.tree.length ≤ 281474976710656) (hz : (∀ p ∈ pss, PValid p) → (thenL pss).length * 48 ≤ 140737488355328) :
    Calls Try.prog 5 #[.slice (some ⟨b, off, none⟩) pss.length cap] w fun e w' => e = .returned (.bool true) ∧ Below w.heap.size w w' := by
  have hsz : ∀ p ∈ pss, SizeP p := fun p hp => ⟨by have := (hs p hp).1; omega, (hs p hp).2⟩
  have H0 := Lib.hid (copied4_any w b off cap pss hc hm (fun p hp => (hs p hp).1))
  have H1 := Lib.hid (fun W (h : PiecesAt W b off pss) => (Then_some W b off cap pss h (by omega) hsz).mono fun e w' h => BPost.got h)
  have HAL := Lib.hid (fun W b2 cap2 h1 h2 => alike4_any W b off cap b2 0 cap2 pss h1 h2 (by omega) (fun p hp => (hsz p hp).1))
  have HRT := Lib.hid (fun W (h : PiecesAt W b off pss) hv => rThen_some W b off cap pss h h0 (by omega) hv (hz hv))
  have hmk := sz_mk' (P := ∀ p ∈ pss, PValid p) (L := thenL pss) (fun h => ⟨tb_then h, by have := hz h; omega⟩)
  have HD := Lib.hid (fun W (h : PiecesAt W b off pss) vm (hA : ArgP W vm (mk (∀ p ∈ pss, PValid p) (thenL pss))) => due_any W b off cap pss vm (mk (∀ p ∈ pss, PValid p) (thenL pss)) h (by omega) hsz (fun _ => hA) hA.form hmk.1 hmk.2)
  rw [due_mk (l := pss) (P := ∀ p ∈ pss, PValid p) (L := thenL pss) (fun h => h)] at HD
  have HTO := Lib.hid (fun W v er vm (h : GotP W v er (dueP pss (thenL pss)) (thenL pss)) (hA : ArgP W vm (mk (∀ p ∈ pss, PValid p) (thenL pss))) => told_any2 W v vm er (dueP pss (thenL pss)) (thenL pss) (mk (∀ p ∈ pss, PValid p) (thenL pss)) h hA (fun h => mk_yes (due_zero h) _) (fun h => by have := hz (due_zero h); omega))
  have HS := Lib.hid hsz
  have HC := Lib.hid (fun W (h : Below w.heap.size w W) => hc.below h)
  clear hc hs hsz hmk hz
  generalize hnn : pss.length = n at *
  have HN := Lib.hid hnn
  have hn2 : n ≤ 6000000000000 := by omega
  clear hnn hm
  go_enter Try.func5, Try.ntmps5
  go_wp2_with fail
  refine H0.out.mono ?_
  rintro e w1 ⟨u1, vs, rfl, ho1, hos1, h1⟩
  obtain ⟨g1, cap1, rfl, hpc1⟩ := pieces_own ho1 hos1.args h0
  have hb1 := Lib.hid h1
  have HK1 := Lib.hid hpc1
  clear ho1 hos1 h1 hpc1
  go_wp2_with fail
  refine (H1.out _ (HC.out _ hb1.out)).mono ?_
  rintro e w2 ⟨h2, va, ea, rfl, ⟨aa, na, ca, rfl⟩, ga⟩
  have hb2 := Lib.hid (bstep hb1.out h2)
  have GA := Lib.hid ga; have HK2 := Lib.hid (HK1.out.below h2)
  clear ga h2
  go_wp2_with fail
  refine (HAL.out _ _ _ (HC.out _ hb2.out) HK2.out).mono ?_
  rintro e w3 ⟨rfl, h3⟩
  have hb3 := Lib.hid (bstep hb2.out h3)
  have GA3 := Lib.hid (GA.out.below h3)
  clear h3
  go_wp2_with fail
  go_loopw [7, 8] (fun v i wr => ∃ (k : Nat) (bb : Bool), k ≤ n ∧ i = .int .i64 k ∧ v = .bool bb ∧ Hid (bb = true ↔ ∀ j p, j < k → pss[j]? = some p → PValid p) ∧ Below w3.heap.size w3 wr) (fun _ i _ => n - (intOf i).toNat)
  case atStart => exact ⟨0, true, Nat.zero_le _, rfl, rfl, Lib.hid (by simp), Below.refl _ _⟩
  case round =>
    obtain ⟨k, bb, hk, rfl, rfl, HBB, hb⟩ := hrel
    have hsz := hb.size
    by_cases hlt : k < n
    · have hk1 : (k : Int) < (n : Int) := by omega
      obtain ⟨p, hp⟩ := piece_at (pss := pss) (k := k) (by rw [HN.out]; exact hlt)
      have HP := Lib.hid hp
      have hext : ∀ bb2 : Bool, (bb2 = true ↔ PValid p) → ((bb && bb2) = true ↔ ∀ j p, j < k + 1 → pss[j]? = some p → PValid p) := fun bb2 h2 => by
        rw [Bool.and_eq_true]
        constructor
        · rintro ⟨e1, e2⟩ j p' hj hp'
          by_cases h : j = k
          · subst h
            have h3 := HP.out
            rw [hp'] at h3
            cases h3; exact h2.1 e2
          · exact HBB.out.1 e1 j p' (by omega) hp'
        · intro h
          exact ⟨HBB.out.2 (fun j p' hj hp' => h j p' (by omega) hp'), h2.2 (h k p (by omega) HP.out)⟩
      cases bb with
      | false =>
        have HX := Lib.hid hext
        clear hp hext
        go_wp2_with fail
        go_roundw
        case rel => exact ⟨k + 1, false, by omega, by go_num, rfl, Lib.hid (by obtain ⟨r, hr⟩ := pv_bool p; have := HX.out r hr; simpa using this), hb⟩
        case measure => simp [intOf]; omega
      | true =>
        obtain ⟨r, hr⟩ := pv_bool p
        obtain ⟨u, hcell, hA⟩ := (HC.out _ (bstep hb3.out hb)).piece k p hp
        have HV := Lib.hid (PV_arg _ u p r hA (HS.out p (List.mem_of_getElem? hp)).1 (HS.out p (List.mem_of_getElem? hp)).2 hr)
        have HX : Hid (r = true ↔ ∀ j p, j < k + 1 → pss[j]? = some p → PValid p) := Lib.hid (by have := hext r hr; simpa using this)
        obtain ⟨pa, pcap, rfl⟩ := hA.form
        clear hp hext hA hr
        generalize p.length = q at *
        go_wp2_with fail
        refine HV.out.mono ?_
        rintro e w4 ⟨rfl, h4⟩
        have hb4 := Lib.hid (hb.trans (h4.mono hsz))
        clear h4
        go_wp2_with fail
        go_roundw
        case rel => exact ⟨k + 1, r, by omega, by go_num, rfl, HX, hb4.out⟩
        case measure => simp [intOf]; omega
    · obtain rfl : k = n := by omega
      have HALL : Hid (bb = true ↔ ∀ p ∈ pss, PValid p) := Lib.hid (HBB.out.trans ⟨fun h p hp => by
        obtain ⟨j, hj⟩ := List.mem_iff_getElem?.1 hp
        exact h j p (by have := (List.getElem?_eq_some_iff.1 hj).1; have := HN.out; omega) hj, fun h j p _ hp => h p (List.mem_of_getElem? hp)⟩)
      have hb5 := Lib.hid (bstep hb3.out hb)
      have GA5 := Lib.hid (GA3.out.below hb)
      clear HBB hb
      cases bb with
      | false =>
        have HM : Hid (ArgP wr (.slice none 0 0) (mk (∀ p ∈ pss, PValid p) (thenL pss))) := Lib.hid (by
          rw [mk_no (fun h => by have := HALL.out.2 h; cases this)]; exact nil_arg _)
        go_wp2_with fail
        refine (HD.out _ (HC.out _ hb5.out) _ HM.out).mono ?_
        rintro e w6 ⟨rfl, h6⟩
        have hb6 := Lib.hid (bstep hb5.out h6)
        have GA6 := Lib.hid (GA5.out.below h6); have HM6 := Lib.hid (HM.out.below h6)
        clear h6
        go_wp2_with fail
        refine (HTO.out _ _ _ _ GA6.out HM6.out).mono ?_
        rintro e w7 ⟨rfl, h7⟩
        have hb7 := Lib.hid (bstep hb6.out h7)
        clear h7
        go_wp2_with fail
        refine (awake4_any _).mono ?_
        rintro e w8 ⟨rfl, h8⟩
        have hb8 := Lib.hid (bstep hb7.out h8)
        clear h8
        go_wp2
        go_ret
        exact ⟨rfl, hb8.out⟩
      | true =>
        have hv : Hid (∀ p ∈ pss, PValid p) := Lib.hid (HALL.out.1 rfl)
        go_wp2_with fail
        refine (HRT.out _ (HC.out _ hb5.out) hv.out).mono ?_
        rintro e w9 ⟨u9, rfl, ha9, h9⟩
        have hm9 : ArgP w9 u9 (mk (∀ p ∈ pss, PValid p) (thenL pss)) := by rw [mk_yes hv.out]; exact ha9
        obtain ⟨a9, c9, rfl⟩ := hm9.form
        have HM := Lib.hid hm9
        have hb9 := Lib.hid (bstep hb5.out h9)
        have GA9 := Lib.hid (GA5.out.below h9)
        clear ha9 h9 hm9
        go_wp2_with fail
        refine (HD.out _ (HC.out _ hb9.out) _ HM.out).mono ?_
        rintro e w6 ⟨rfl, h6⟩
        have hb6 := Lib.hid (bstep hb9.out h6)
        have GA6 := Lib.hid (GA9.out.below h6); have HM6 := Lib.hid (HM.out.below h6)
        clear h6
        go_wp2_with fail
        refine (HTO.out _ _ _ _ GA6.out HM6.out).mono ?_
        rintro e w7 ⟨rfl, h7⟩
        have hb7 := Lib.hid (bstep hb6.out h7)
        clear h7
        go_wp2_with fail
        refine (awake4_any _).mono ?_
        rintro e w8 ⟨rfl, h8⟩
        have hb8 := Lib.hid (bstep hb7.out h8)
        clear h8
        go_wp2
        go_ret
        exact ⟨rfl, hb8.out⟩
end Go.Proofs.Ytmhoacnbmbhcjab
