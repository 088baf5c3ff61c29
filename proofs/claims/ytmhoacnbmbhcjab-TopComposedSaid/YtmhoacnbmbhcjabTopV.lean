/- narcissustop: which programs are valid; registers; twin. By an AI agent. -/
import Derived.Test.YtmhoacnbmbhcjabTopG
import Derived.Test.YtmhoacnbmbhcjabBld4
namespace Go.Proofs.Ytmhoacnbmbhcjab
open Go.RowKit Pl

set_option maxHeartbeats 400000 in
set_option maxRecDepth 100000 in
theorem treg_any (n : Int) (w : World) :
    Calls Try.prog 103 #[.int .i64 n] w fun e w' => e = .returned (.bool (reg n)) ∧ w = w' := by
  by_cases h : 0 ≤ n
  · by_cases h2 : n < 32
    · have hr : reg n = true := by simp [reg, h, h2]
      have HR := Lib.hid hr; clear hr
      go_enter Try.func103, Try.ntmps103
      go_wp2_with fail
      go_ret
      exact ⟨ret_bool HR.out.symm, rfl⟩
    · have hr : reg n = false := by simp [reg, h2]
      have HR := Lib.hid hr; clear hr
      go_enter Try.func103, Try.ntmps103
      go_wp2_with fail
      go_ret
      exact ⟨ret_bool HR.out.symm, rfl⟩
  · have hr : reg n = false := by simp [reg, h]
    have HR := Lib.hid hr; clear hr
    go_enter Try.func103, Try.ntmps103
    go_wp2_with fail
    go_ret
    exact ⟨ret_bool HR.out.symm, rfl⟩
theorem treg_is (b : Bool) (n : Int) (w : World) (h : reg n = b) :
    Calls Try.prog 103 #[.int .i64 n] w fun e w' => e = .returned (.bool b) ∧ w = w' := by
  rw [← h]; exact treg_any n w
set_option maxHeartbeats 1600000 in
set_option maxRecDepth 100000 in
theorem tregs_some (w : World) (b off cap : Nat) (ps : List Ins) (hc : ProgAt w b off ps) (hm : ps.length ≤ 4000) (hr : AllR ps) :
    Calls Try.prog 47 #[.slice (some ⟨b, off, none⟩) ps.length cap] w fun e w' => e = .returned (.int .i64 (regs ps)) ∧ Below w.heap.size w w' := by
  have HR : Hid (∀ (k : Nat) (x : Ins), ps[k]? = some x → right x k ps.length = true) := Lib.hid hr
  generalize hnn : ps.length = n at *
  have HN := Lib.hid hnn; have HC := Lib.hid hc
  clear hc hr hnn
  go_enter Try.func47, Try.ntmps47
  go_wp2
  go_loopw [3, 4] (fun v i wr => ∃ k : Nat, k ≤ n ∧ i = .int .i64 k ∧ (∃ r : Int, v = .int .i64 r ∧ -100000 ≤ r ∧ r ≤ 100000 ∧ Hid (r + 1 = regsTo ps k)) ∧ ∃ q, wr = w.drewN q) (fun _ i _ => n - (intOf i).toNat)
  case atStart => exact ⟨0, Nat.zero_le _, rfl, ⟨0, rfl, by omega, by omega, Lib.hid rfl⟩, 0, rfl⟩
  case round =>
    obtain ⟨k, hk, rfl, ⟨r, rfl, hr0, hr1, hrr⟩, q, rfl⟩ := hrel
    by_cases hlt : k < n
    · obtain ⟨x, hx⟩ := get_at (ps := ps) (k := k) (by rw [HN.out]; exact hlt)
      obtain ⟨c0, c1, c2, c3, c4⟩ := HC.out.2 k x hx
      obtain ⟨⟨a0, a1⟩, ⟨b0, b1⟩, ⟨d0, d1⟩, _⟩ := right_small (HR.out k x hx) (by omega) (by omega) (by omega)
      have HT := Lib.hid (regsTo_succ hx)
      clear hx c4
      by_cases h5 : x.op = 5
      · have h6 : (x.op != 5) = false := by rw [h5]; rfl
        have HX : Hid (max r x.a + 1 = regsTo ps (k + 1)) := Lib.hid (by rw [HT.out, ← hrr.out]; unfold rstep; rw [if_pos h5]; omega)
        rw [h5] at c0
        clear h6 h5
        go_wp2
        go_roundw
        case rel => exact ⟨k + 1, by omega, by go_num, ⟨_, rfl, by omega, by omega, HX⟩, _, rfl⟩
        case measure => simp [intOf]; omega
      · have h6 : (x.op != 5) = true := by rw [bne_iff_ne]; exact h5
        have HX : Hid (max (max (max r x.a) x.b) x.c + 1 = regsTo ps (k + 1)) := Lib.hid (by rw [HT.out, ← hrr.out]; unfold rstep; rw [if_neg h5]; omega)
        clear h5
        go_wp2
        go_quiet (fail)
        go_wp2
        go_roundw
        case rel => exact ⟨k + 1, by omega, by go_num, ⟨_, rfl, by rw [max_if, max_if]; omega, by rw [max_if, max_if]; omega, Lib.hid (by rw [max_if, max_if]; exact HX.out)⟩, _, rfl⟩
        case measure => simp [intOf]; omega
    · have HT := Lib.hid (regsTo_all (ps := ps) (k := k) (by rw [HN.out]; omega))
      have HU := Lib.hid (hrr.out.trans HT.out)
      go_wp2
      go_ret
      exact ⟨ret_int HU.out, bdrewN (Below.refl _ _) _⟩
set_option maxHeartbeats 800000 in
set_option maxRecDepth 100000 in
theorem tregs_none (w : World) (a : Option Addr) (cap : Nat) :
    Calls Try.prog 47 #[.slice a 0 cap] w fun e w' => e = .returned (.int .i64 1) ∧ Below w.heap.size w w' := by
  go_enter Try.func47, Try.ntmps47
  go_wp2
  go_loop [3, 4] (fun v i => v = .int .i64 0 ∧ i = .int .i64 0) (fun _ _ => 0)
  case atStart => exact ⟨rfl, rfl⟩
  case round =>
    obtain ⟨rfl, rfl⟩ := hrel
    go_wp2
    go_ret
    exact ⟨rfl, Below.refl _ _⟩
theorem tregs_arg (w : World) (v : Value) (ps : List Ins) (h : ArgP w v ps) (hv : PValid ps) :
    Calls Try.prog 47 #[v] w fun e w' => e = .returned (.int .i64 (regs ps)) ∧ Below w.heap.size w w' := by
  rcases h with ⟨rfl, h⟩ | ⟨h0, b, off, cap, rfl, hc⟩
  · obtain ⟨a, cap, rfl⟩ := empty_arg h
    exact tregs_none w a cap
  · exact tregs_some w b off cap ps hc hv.1 hv.2.2
theorem ttwin_arg (w : World) (v : Value) (ps : List Ins) (h : ArgP w v ps) (hz : ps.length * 48 ≤ 140737488355328) :
    Calls Try.prog 44 #[v] w fun e w' => ∃ v', e = .returned v' ∧ ArgP w' v' ps ∧ Below w.heap.size w w' := by
  have HA := Lib.hid h
  obtain ⟨a, c, rfl⟩ := h.form
  have HO := Lib.hid (World.ownsRow_lit (e := 39) (size := 5) (base := w.heap.size) w #[] 0 (Nat.le_refl _) (by unfold maxLen; omega) rfl)
  have HB := Lib.hid (alloc_below w (.cells #[] 39))
  have HA1 := Lib.hid (HA.out.below HB.out)
  clear h
  go_enter Try.func44, Try.ntmps44
  go_wp2_with (at_builtin; refine wpList_app_prog rfl _ _ rfl w.heap.size _ 0 [] rfl HO.out _ rfl ps HA1.out (by omega) (by simp) ?_; intro v' w' hown hgrow)
  have HB2 : Hid (Below w.heap.size w w') := Lib.hid (HB.out.grown hgrow HB.out.size (fun g h => (HO.out.lt g h).1))
  have hr : ArgP w' v' ps := (own_prog (ps := ps) (by simpa using hown)).2.1
  have HR := Lib.hid hr
  clear hown hgrow hr
  go_wp2_with fail
  go_ret
  exact ⟨_, rfl, HR.out, HB2.out⟩
/-- what good asks for -/
def GoodP (p : List Ins) (most chars : Nat) : Prop := p.length ≤ most ∧ trees p ≤ chars ∧ AllR p
theorem good_valid {p : List Ins} {most chars : Nat} (h : GoodP p most chars) (h1 : most ≤ 4000) (h2 : chars ≤ 2000000) : PValid p := ⟨Nat.le_trans h.1 h1, Nat.le_trans h.2.1 h2, h.2.2⟩
theorem good_all {p : List Ins} : GoodP p 4000 2000000 ↔ PValid p := Iff.rfl
theorem good_bool (p : List Ins) (most chars : Nat) : ∃ r : Bool, r = true ↔ GoodP p most chars := by
  by_cases h : GoodP p most chars
  · exact ⟨true, by simp [h]⟩
  · exact ⟨false, by simp [h]⟩
set_option maxHeartbeats 400000 in
set_option maxRecDepth 100000 in
theorem good_long (w : World) (a : Option Addr) (n cap most chars : Nat) (h : most < n) :
    Calls Try.prog 80 #[.slice a n cap, .int .i64 (most : Int), .int .i64 (chars : Int)] w fun e w' => e = .returned (.bool false) ∧ Below w.heap.size w w' := by
  have h1 : (most : Int) < (n : Int) := by omega
  go_enter Try.func80, Try.ntmps80
  go_wp2
  go_ret
  exact ⟨rfl, Below.refl _ _⟩
set_option maxHeartbeats 400000 in
set_option maxRecDepth 100000 in
theorem good_none (w : World) (a : Option Addr) (cap most chars : Nat) :
    Calls Try.prog 80 #[.slice a 0 cap, .int .i64 (most : Int), .int .i64 (chars : Int)] w fun e w' => e = .returned (.bool true) ∧ Below w.heap.size w w' := by
  have h1 : ¬ (most : Int) < 0 := by omega
  go_enter Try.func80, Try.ntmps80
  go_wp2
  go_loop [7, 8] (fun v i => v = .int .i64 0 ∧ i = .int .i64 0) (fun _ _ => 0)
  case atStart => exact ⟨rfl, rfl⟩
  case round =>
    obtain ⟨rfl, rfl⟩ := hrel
    go_wp2
    go_ret
    exact ⟨rfl, Below.refl _ _⟩
theorem isT_of {t : List UInt8} (h : vld t = true) : isT t := by obtain ⟨u, hu⟩ := vld_tr h; exact ⟨u, hu⟩
theorem vld_no {t : List UInt8} (h : ¬ isT t) : vld t = false := by
  cases hv : vld t with
  | false => rfl
  | true => exact absurd (isT_of hv) h
theorem right_j1 {a b i n : Int} (h : b < -i) : right ⟨5, a, b, 0, []⟩ i n = false := by
  have : ¬ -i ≤ b := by omega
  simp [right, this]
theorem right_j2 {a b i n : Int} (h : n - i < b) : right ⟨5, a, b, 0, []⟩ i n = false := by
  have : ¬ b ≤ n - i := by omega
  simp [right, this]
theorem bstepW {B : Nat} {w w1 w2 : World} (h : Below B w w1) (k : Below w1.heap.size w1 w2) (hs : B ≤ w1.heap.size := by exact Nat.le_trans (by assumption) (by simp)) : Below B w w2 := h.trans (k.mono hs)
set_option maxHeartbeats 6400000 in
set_option maxRecDepth 100000 in
theorem good_some (w : World) (b off cap most chars : Nat) (ps : List Ins) (r : Bool) (hc : ProgAt w b off ps) (h0 : 0 < ps.length) (hm : ps.length ≤ most) (hm4 : most ≤ 4000) (hch : chars ≤ 2000000) (hz : ∀ x ∈ ps, x.tree.length ≤ 281474976710656) (hr : r = true ↔ GoodP ps most chars) :
    Calls Try.prog 80 #[.slice (some ⟨b, off, none⟩) ps.length cap, .int .i64 (most : Int), .int .i64 (chars : Int)] w fun e w' => e = .returned (.bool r) ∧ Below w.heap.size w w' := by
  have HT := Lib.hid (treesTo_top (ps := ps))
  have HTA := Lib.hid (treesTo_all (ps := ps) (k := ps.length) (Nat.le_refl _))
  generalize hnn : ps.length = n at *
  have HN := Lib.hid hnn; have HC := Lib.hid hc; have HZ := Lib.hid hz; have HR := Lib.hid hr; clear hnn hc hz hr
  have hbw := HC.out.1
  have HBW := Lib.hid hbw
  have hle : ¬ (most : Int) < (n : Int) := by omega
  clear hbw
  go_enter Try.func80, Try.ntmps80
  go_wp2
  go_loopw [7, 8] (fun t i wr => ∃ (k u : Nat), k ≤ n ∧ i = .int .i64 k ∧ t = .int .i64 u ∧ u ≤ chars ∧ Hid (treesTo ps k = u) ∧ Hid (∀ (j : Nat) (x : Ins), j < k → ps[j]? = some x → right x j n = true) ∧ Below w.heap.size w wr) (fun _ i _ => n - (intOf i).toNat)
  case atStart => exact ⟨0, 0, Nat.zero_le _, rfl, rfl, by omega, Lib.hid (by simp [treesTo]), Lib.hid (fun j x hj => absurd hj (Nat.not_lt_zero _)), Below.refl _ _⟩
  case round =>
    obtain ⟨k, u, hk, rfl, rfl, hu, htu, hright, hb⟩ := hrel
    have hsz := hb.size
    by_cases hlt : k < n
    · obtain ⟨x, hx⟩ := get_at (ps := ps) (k := k) (by have := HN.out; omega)
      obtain ⟨a0, a1, a2, a3, a4⟩ := HC.out.2 k x hx
      have hxz : x.tree.length ≤ 281474976710656 := HZ.out x (List.mem_of_getElem? hx)
      have k0 := (hb.cell (p := ⟨b, off + k * 5, none⟩) HBW.out).trans a0
      have k1 := (hb.cell (p := ⟨b, off + k * 5 + 1, none⟩) HBW.out).trans a1
      have k2 := (hb.cell (p := ⟨b, off + k * 5 + 2, none⟩) HBW.out).trans a2
      have k3 := (hb.cell (p := ⟨b, off + k * 5 + 3, none⟩) HBW.out).trans a3
      have k4 := (hb.cell (p := ⟨b, off + k * 5 + 4, none⟩) HBW.out).trans a4
      have HT1 : Hid (treesTo ps (k + 1) = u + x.tree.length) := Lib.hid (by rw [treesTo_succ hx, htu.out])
      have hk1 : (k : Int) < (n : Int) := by omega
      have HNO : Hid (right x k n = false → r = false) := Lib.hid (fun hrv => by
        cases r with
        | false => rfl
        | true =>
          have h1 := (HR.out.1 rfl).2.2 k x hx
          rw [HN.out, hrv] at h1; cases h1)
      have HYES : Hid (right x k n = true → ∀ (j : Nat) (y : Ins), j < k + 1 → ps[j]? = some y → right y j n = true) := Lib.hid (fun hrv j y hj hy => by
        by_cases h : j = k
        · subst h
          rw [hy] at hx
          cases hx; exact hrv
        · exact hright.out j y (by omega) hy)
      clear hx a0 a1 a2 a3 a4
      obtain ⟨op, a, b1, c, t⟩ := x
      simp only at k0 k1 k2 k3 k4 hxz HT1
      have HSL := Lib.hid (S_size t)
      by_cases hbig : chars < u + t.length
      · have HF : Hid (r = false) := Lib.hid (by
          cases r with
          | false => rfl
          | true => have h1 := (HR.out.1 rfl).2.1; have h2 := HT.out (k + 1); rw [HT1.out] at h2; omega)
        have hbig' : (chars : Int) < (u : Int) + (t.length : Int) := by omega
        go_wp2_with fail
        go_ret
        rw [HF.out]
        exact ⟨rfl, hb.alloc hsz _⟩
      have hbig' : (u : Int) + (t.length : Int) ≤ (chars : Int) := by omega
      have htl : t.length ≤ chars := by omega
      have HB1 : Hid (Below w.heap.size w (wr.alloc (.cells #[.int .i64 op, .int .i64 a, .int .i64 b1, .int .i64 c, .string (S t)] 39))) := Lib.hid (hb.alloc hsz _)
      have HTL := Lib.hid htl
      clear hxz hb htl hbig
      cases ha : reg a with
      | false =>
        have HA := Lib.hid (fun W => treg_is false a W ha)
        have HF : Hid (r = false) := Lib.hid (HNO.out (by simp [right, ha]))
        clear ha HT HTA
        go_wp2_with fail
        refine (HA.out _).mono ?_
        rintro e w' ⟨rfl, rfl⟩
        go_wp2_with fail
        go_ret
        rw [HF.out]
        exact ⟨rfl, HB1.out⟩
      | true =>
        have HA := Lib.hid (fun W => treg_is true a W ha)
        have HRA := Lib.hid ha
        clear ha HT HTA
        by_cases h0 : op = 0
        · subst h0
          by_cases hc : c = 0
          · subst hc
            have HG := Lib.hid (fun W => grow_any t chars W HTL.out hch)
            by_cases hb : b1 = 0
            · subst hb
              go_wp2_with fail
              refine (HA.out _).mono ?_
              rintro e w' ⟨rfl, rfl⟩
              go_wp2_with fail
              refine (HG.out _).mono ?_
              rintro e w2 ⟨h2, ⟨t2, v2, ht2, rfl, _⟩ | ⟨hno, rfl⟩⟩
              · have HRV : Hid (right ⟨0, a, 0, 0, t⟩ k n = true) := Lib.hid (by have := isT_vld ⟨t2, ht2⟩ (by have := HTL.out; omega); simp [right, HRA.out, this])
                have HB2 := Lib.hid (bstepW HB1.out h2)
                have c2 : w2.cell? ⟨wr.heap.size, 2, none⟩ = some (.int .i64 0) := cell_keep h2 (by rw [World.cell?_alloc_new]; rfl)
                clear ht2 h2
                go_wp2_with fail
                go_roundw
                case rel => exact ⟨k + 1, u + t.length, by omega, by go_num, by go_num, by omega, HT1, Lib.hid (HYES.out HRV.out), HB2.out⟩
                case measure => simp [intOf]; omega
              · have HF : Hid (r = false) := Lib.hid (HNO.out (by simp [right, vld_no hno]))
                have HB2 := Lib.hid (bstepW HB1.out h2)
                clear hno h2
                go_wp2_with fail
                go_ret
                rw [HF.out]
                exact ⟨rfl, HB2.out⟩
            · have HF : Hid (r = false) := Lib.hid (HNO.out (by simp [right, hb]))
              have hbe : (b1 == 0) = false := beq_eq_false_iff_ne.2 hb
              have hbn : (b1 != 0) = true := by rw [bne_iff_ne]; exact hb
              clear hb
              go_wp2_with fail
              refine (HA.out _).mono ?_
              rintro e w' ⟨rfl, rfl⟩
              go_wp2_with fail
              refine (HG.out _).mono ?_
              rintro e w2 ⟨h2, ⟨t2, v2, ht2, rfl, _⟩ | ⟨hno, rfl⟩⟩
              · have HB2 := Lib.hid (bstepW HB1.out h2)
                have c2 : w2.cell? ⟨wr.heap.size, 2, none⟩ = some (.int .i64 b1) := cell_keep h2 (by rw [World.cell?_alloc_new]; rfl)
                clear ht2 h2
                go_wp2_with fail
                go_ret
                rw [HF.out]
                exact ⟨rfl, HB2.out⟩
              · have HB2 := Lib.hid (bstepW HB1.out h2)
                clear hno h2
                go_wp2_with fail
                go_ret
                rw [HF.out]
                exact ⟨rfl, HB2.out⟩
          · have HF : Hid (r = false) := Lib.hid (HNO.out (by simp [right, hc]))
            have hce : (c == 0) = false := beq_eq_false_iff_ne.2 hc
            have hcn : (c != 0) = true := by rw [bne_iff_ne]; exact hc
            clear hc
            go_wp2_with fail
            refine (HA.out _).mono ?_
            rintro e w' ⟨rfl, rfl⟩
            go_wp2_with fail
            go_ret
            rw [HF.out]
            exact ⟨rfl, HB1.out⟩
        have h0e : (op == 0) = false := beq_eq_false_iff_ne.2 h0
        have h0n : (op != 0) = true := by rw [bne_iff_ne]; exact h0
        by_cases ht : t = []
        rotate_left
        · have HF : Hid (r = false) := Lib.hid (HNO.out (by simp [right, h0, ht]))
          have t0 : t.isEmpty = false := by simpa using ht
          have t1 : (t == []) = false := beq_eq_false_iff_ne.2 ht
          clear ht h0
          go_wp2_with fail
          refine (HA.out _).mono ?_
          rintro e w' ⟨rfl, rfl⟩
          go_wp2_with fail
          go_ret
          rw [HF.out]
          exact ⟨rfl, HB1.out⟩
        subst ht
        by_cases h2 : op = 2
        · subst h2
          clear h0 h0e h0n
          cases hb : reg b1 with
          | false =>
            have HBB := Lib.hid (fun W => treg_is false b1 W hb)
            have HF : Hid (r = false) := Lib.hid (HNO.out (by simp [right, hb]))
            clear hb
            go_wp2_with fail
            refine (HA.out _).mono ?_
            rintro e w' ⟨rfl, rfl⟩
            go_wp2_with fail
            refine (HBB.out _).mono ?_
            rintro e w' ⟨rfl, rfl⟩
            go_wp2_with fail
            go_ret
            rw [HF.out]
            exact ⟨rfl, HB1.out⟩
          | true =>
            have HBB := Lib.hid (fun W => treg_is true b1 W hb)
            have HRB := Lib.hid hb
            clear hb
            cases hc : reg c with
            | false =>
              have HCC := Lib.hid (fun W => treg_is false c W hc)
              have HF : Hid (r = false) := Lib.hid (HNO.out (by simp [right, hc]))
              clear hc
              go_wp2_with fail
              refine (HA.out _).mono ?_
              rintro e w' ⟨rfl, rfl⟩
              go_wp2_with fail
              refine (HBB.out _).mono ?_
              rintro e w' ⟨rfl, rfl⟩
              go_wp2_with fail
              refine (HCC.out _).mono ?_
              rintro e w' ⟨rfl, rfl⟩
              go_wp2_with fail
              go_ret
              rw [HF.out]
              exact ⟨rfl, HB1.out⟩
            | true =>
              have HCC := Lib.hid (fun W => treg_is true c W hc)
              have HRV : Hid (right ⟨2, a, b1, c, []⟩ k n = true) := Lib.hid (by simp [right, hc, HRA.out, HRB.out])
              clear hc
              go_wp2_with fail
              refine (HA.out _).mono ?_
              rintro e w' ⟨rfl, rfl⟩
              go_wp2_with fail
              refine (HBB.out _).mono ?_
              rintro e w' ⟨rfl, rfl⟩
              go_wp2_with fail
              refine (HCC.out _).mono ?_
              rintro e w' ⟨rfl, rfl⟩
              go_wp2_with fail
              go_roundw
              case rel => exact ⟨k + 1, u, by omega, by go_num, by go_num, by omega, Lib.hid (by have := HT1.out; simpa using this), Lib.hid (HYES.out (HRV.out)), HB1.out⟩
              case measure => simp [intOf]; omega
        have h2e : (op == 2) = false := beq_eq_false_iff_ne.2 h2
        have h2n : (op != 2) = true := by rw [bne_iff_ne]; exact h2
        by_cases hc : c = 0
        rotate_left
        · have HF : Hid (r = false) := Lib.hid (HNO.out (by simp [right, h0, h2, hc]))
          have hce : (c == 0) = false := beq_eq_false_iff_ne.2 hc
          have hcn : (c != 0) = true := by rw [bne_iff_ne]; exact hc
          clear hc h0 h2
          go_wp2_with fail
          refine (HA.out _).mono ?_
          rintro e w' ⟨rfl, rfl⟩
          go_wp2_with fail
          go_ret
          rw [HF.out]
          exact ⟨rfl, HB1.out⟩
        subst hc
        by_cases h1 : op = 1
        · subst h1
          clear h0 h0e h0n h2 h2e h2n
          cases hb : reg b1 with
          | false =>
            have HBB := Lib.hid (fun W => treg_is false b1 W hb)
            have HF : Hid (r = false) := Lib.hid (HNO.out (by simp [right, hb]))
            clear hb
            go_wp2_with fail
            refine (HA.out _).mono ?_
            rintro e w' ⟨rfl, rfl⟩
            go_wp2_with fail
            refine (HBB.out _).mono ?_
            rintro e w' ⟨rfl, rfl⟩
            go_wp2_with fail
            go_ret
            rw [HF.out]
            exact ⟨rfl, HB1.out⟩
          | true =>
            have HBB := Lib.hid (fun W => treg_is true b1 W hb)
            have HRV : Hid (right ⟨1, a, b1, 0, []⟩ k n = true) := Lib.hid (by simp [right, hb, HRA.out])
            clear hb
            go_wp2_with fail
            refine (HA.out _).mono ?_
            rintro e w' ⟨rfl, rfl⟩
            go_wp2_with fail
            refine (HBB.out _).mono ?_
            rintro e w' ⟨rfl, rfl⟩
            go_wp2_with fail
            go_roundw
            case rel => exact ⟨k + 1, u, by omega, by go_num, by go_num, by omega, Lib.hid (by have := HT1.out; simpa using this), Lib.hid (HYES.out (HRV.out)), HB1.out⟩
            case measure => simp [intOf]; omega
        have h1e : (op == 1) = false := beq_eq_false_iff_ne.2 h1
        have h1n : (op != 1) = true := by rw [bne_iff_ne]; exact h1
        by_cases h3 : op = 3
        · subst h3
          clear h0 h0e h0n h2 h2e h2n h1 h1e h1n
          cases hb : reg b1 with
          | false =>
            have HBB := Lib.hid (fun W => treg_is false b1 W hb)
            have HF : Hid (r = false) := Lib.hid (HNO.out (by simp [right, hb]))
            clear hb
            go_wp2_with fail
            refine (HA.out _).mono ?_
            rintro e w' ⟨rfl, rfl⟩
            go_wp2_with fail
            refine (HBB.out _).mono ?_
            rintro e w' ⟨rfl, rfl⟩
            go_wp2_with fail
            go_ret
            rw [HF.out]
            exact ⟨rfl, HB1.out⟩
          | true =>
            have HBB := Lib.hid (fun W => treg_is true b1 W hb)
            have HRV : Hid (right ⟨3, a, b1, 0, []⟩ k n = true) := Lib.hid (by simp [right, hb, HRA.out])
            clear hb
            go_wp2_with fail
            refine (HA.out _).mono ?_
            rintro e w' ⟨rfl, rfl⟩
            go_wp2_with fail
            refine (HBB.out _).mono ?_
            rintro e w' ⟨rfl, rfl⟩
            go_wp2_with fail
            go_roundw
            case rel => exact ⟨k + 1, u, by omega, by go_num, by go_num, by omega, Lib.hid (by have := HT1.out; simpa using this), Lib.hid (HYES.out (HRV.out)), HB1.out⟩
            case measure => simp [intOf]; omega
        have h3e : (op == 3) = false := beq_eq_false_iff_ne.2 h3
        have h3n : (op != 3) = true := by rw [bne_iff_ne]; exact h3
        by_cases h4 : op = 4
        · subst h4
          clear h0 h0e h0n h2 h2e h2n h1 h1e h1n h3 h3e h3n
          cases hb : reg b1 with
          | false =>
            have HBB := Lib.hid (fun W => treg_is false b1 W hb)
            have HF : Hid (r = false) := Lib.hid (HNO.out (by simp [right, hb]))
            clear hb
            go_wp2_with fail
            refine (HA.out _).mono ?_
            rintro e w' ⟨rfl, rfl⟩
            go_wp2_with fail
            refine (HBB.out _).mono ?_
            rintro e w' ⟨rfl, rfl⟩
            go_wp2_with fail
            go_ret
            rw [HF.out]
            exact ⟨rfl, HB1.out⟩
          | true =>
            have HBB := Lib.hid (fun W => treg_is true b1 W hb)
            have HRV : Hid (right ⟨4, a, b1, 0, []⟩ k n = true) := Lib.hid (by simp [right, hb, HRA.out])
            clear hb
            go_wp2_with fail
            refine (HA.out _).mono ?_
            rintro e w' ⟨rfl, rfl⟩
            go_wp2_with fail
            refine (HBB.out _).mono ?_
            rintro e w' ⟨rfl, rfl⟩
            go_wp2_with fail
            go_roundw
            case rel => exact ⟨k + 1, u, by omega, by go_num, by go_num, by omega, Lib.hid (by have := HT1.out; simpa using this), Lib.hid (HYES.out (HRV.out)), HB1.out⟩
            case measure => simp [intOf]; omega
        have h4e : (op == 4) = false := beq_eq_false_iff_ne.2 h4
        have h4n : (op != 4) = true := by rw [bne_iff_ne]; exact h4
        by_cases h5 : op = 5
        · subst h5
          clear h0 h0e h0n h2 h2e h2n h1 h1e h1n h3 h3e h3n h4 h4e h4n
          have HK : Hid ((k : Int) ≤ 4000 ∧ (n : Int) ≤ 4000) := Lib.hid (by omega)
          by_cases hb : b1 < -(k : Int)
          · have HF : Hid (r = false) := Lib.hid (HNO.out (right_j1 hb))
            have k4' : (k : Int) ≤ 4000 := HK.out.1
            go_wp2_with fail
            refine (HA.out _).mono ?_
            rintro e w' ⟨rfl, rfl⟩
            go_wp2_with fail
            go_ret
            rw [HF.out]
            exact ⟨rfl, HB1.out⟩
          by_cases hb2 : (n : Int) - (k : Int) < b1
          · have HF : Hid (r = false) := Lib.hid (HNO.out (right_j2 hb2))
            have k4' : (k : Int) ≤ 4000 := HK.out.1
            have n4' : (n : Int) ≤ 4000 := HK.out.2
            go_wp2_with fail
            refine (HA.out _).mono ?_
            rintro e w' ⟨rfl, rfl⟩
            go_wp2_with fail
            go_ret
            rw [HF.out]
            exact ⟨rfl, HB1.out⟩
          have HRV : Hid (right ⟨5, a, b1, 0, []⟩ k n = true) := Lib.hid (right_jump (reg_true HRA.out).1 (reg_true HRA.out).2 (by omega) (by omega))
          have k4' : (k : Int) ≤ 4000 := HK.out.1
          have n4' : (n : Int) ≤ 4000 := HK.out.2
          go_wp2_with fail
          refine (HA.out _).mono ?_
          rintro e w' ⟨rfl, rfl⟩
          go_wp2_with fail
          go_roundw
          case rel => exact ⟨k + 1, u, by omega, by go_num, by go_num, by omega, Lib.hid (by have := HT1.out; simpa using this), Lib.hid (HYES.out (HRV.out)), HB1.out⟩
          case measure => simp [intOf]; omega
        have h5e : (op == 5) = false := beq_eq_false_iff_ne.2 h5
        have h5n : (op != 5) = true := by rw [bne_iff_ne]; exact h5
        have HF : Hid (r = false) := Lib.hid (HNO.out (by simp [right, h0, h1, h2, h3, h4, h5]))
        clear h0 h1 h2 h3 h4 h5
        go_wp2_with fail
        refine (HA.out _).mono ?_
        rintro e w' ⟨rfl, rfl⟩
        go_wp2_with fail
        go_ret
        rw [HF.out]
        exact ⟨rfl, HB1.out⟩
    · obtain rfl : k = n := by omega
      have HF : Hid (r = true) := Lib.hid (HR.out.2 ⟨by have := HN.out; omega, by have := HTA.out; rw [htu.out] at this; omega, fun j y hy => by
        have := HN.out
        have hj : j < ps.length := (List.getElem?_eq_some_iff.1 hy).1
        rw [HN.out]
        exact hright.out j y (by omega) hy⟩)
      go_wp2_with fail
      go_ret
      rw [HF.out]
      exact ⟨rfl, hb⟩
end Go.Proofs.Ytmhoacnbmbhcjab
