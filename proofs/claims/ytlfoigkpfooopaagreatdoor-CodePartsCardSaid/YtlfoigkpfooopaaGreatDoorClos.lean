/- codeDistance, decodeDistance, read. By an AI agent. -/
import Derived.Test.YtlfoigkpfooopaaGreatDoorUnnest
namespace Go.Proofs.YtlfoigkpfooopaaGreatDoor
open Go.RowKit Pl

theorem own_cap {w : World} {base n : Nat} {e : TypeId} {size : Nat} {v : Value} {xs : List Value} (h : w.ownsRow base e size v n xs) (hn : 0 < n) : ∃ g cap, v = .slice (some ⟨g, 0, none⟩) n cap ∧ n ≤ cap ∧ base ≤ g ∧ g < w.heap.size := by
  have hlt := h.lt
  rcases h.2 with ⟨_, h0⟩ | ⟨g, cap, cur, rfl, hb, _, hc, _⟩
  · omega
  · exact ⟨g, cap, rfl, hc, hb, (hlt g rfl).2⟩
/-- the tree of a distance -/
def cd (n : Int) : List UInt8 := if n < 0 then pr [49, 48, 48] (num (-n).toNat) else pr [48] (num n.toNat)
theorem codeDistance_nat (n : Nat) (w : World) (h : n ≤ 900000) :
    Calls Tryz.prog 94 #[.int .i64 n] w fun e w' => e = .returned (.string (S (pr [48] (num n)))) ∧ Below w.heap.size w w' := by
  have HV := Lib.hid (num_vld (n := n) (by omega))
  have HN := Lib.hid (fun W => Cons_ok [48] (num n) W (by decide) (num_vld (by omega)) (by rw [pr_len, num_len]; simp; omega))
  go_enter Tryz.func94, Tryz.ntmps94
  go_wp2_with fail
  refine (codeNumber_yes n _ (by omega)).mono ?_
  rintro e w1 ⟨rfl, h1⟩
  go_wp2_with fail
  refine (HN.out _).mono ?_
  rintro e w2 ⟨rfl, h2⟩
  go_wp2
  go_ret
  exact ⟨rfl, h1.trans (h2.mono h1.size)⟩
theorem codeDistance_neg (n : Nat) (w : World) (h0 : 0 < n) (h : n ≤ 900000) :
    Calls Tryz.prog 94 #[.int .i64 (-(n : Int))] w fun e w' => e = .returned (.string (S (pr [49, 48, 48] (num n)))) ∧ Below w.heap.size w w' := by
  have HN := Lib.hid (fun W => Cons_ok [49, 48, 48] (num n) W (by decide) (num_vld (by omega)) (by rw [pr_len, num_len]; simp; omega))
  have e0 : (-(n : Int)) < 0 := by omega
  go_enter Tryz.func94, Tryz.ntmps94
  go_wp2_with fail
  refine (codeNumber_yes n _ (by omega)).mono ?_
  rintro e w1 ⟨rfl, h1⟩
  go_wp2_with fail
  refine (HN.out _).mono ?_
  rintro e w2 ⟨rfl, h2⟩
  go_wp2
  go_ret
  exact ⟨rfl, h1.trans (h2.mono h1.size)⟩
theorem codeDistance_any (n : Int) (w : World) (h0 : -900000 ≤ n) (h1 : n ≤ 900000) :
    Calls Tryz.prog 94 #[.int .i64 n] w fun e w' => e = .returned (.string (S (cd n))) ∧ Below w.heap.size w w' := by
  unfold cd
  by_cases h : n < 0
  · obtain ⟨k, hk⟩ : ∃ k : Nat, n = -(k : Int) := ⟨n.natAbs, by omega⟩
    subst hk
    rw [if_pos h, show (- -(k : Int)).toNat = k by omega]
    exact codeDistance_neg k w (by omega) (by omega)
  · obtain ⟨k, hk⟩ : ∃ k : Nat, n = (k : Int) := ⟨n.natAbs, by omega⟩
    subst hk
    rw [if_neg h, Int.toNat_natCast]
    exact codeDistance_nat k w (by omega)

/-- the distance that a tree is -/
def dd (s : List UInt8) : Option Int :=
  if s = [48] then none
  else if hd s = [48] then (if alt (tl s) = true then some (val (tl s)) else none)
  else if hd s = [49, 48, 48] then (if alt (tl s) = true ∧ 0 < val (tl s) then some (-val (tl s)) else none)
  else none
def DPost (w : World) (r : Option Int) (e : Ending) (w' : World) : Prop :=
  match r with
  | some v => e = .returned (.tuple #[.int .i64 v, .bool true]) ∧ Below w.heap.size w w'
  | none => PNo w e w'
/-- decodeNumber of a valid tree -/
def DNum (s : List UInt8) : Option Int := if alt s = true then some (val s) else none
theorem decodeNumber_any (s : List UInt8) (w : World) (hv : vld s = true) (hE : Env w) :
    Calls Tryz.prog 70 #[.string (S s)] w fun e w' => e = .returned (.tuple #[.int .i64 (if alt s = true then val s else 0), .bool (alt s)]) ∧ Below w.heap.size w w' := by
  cases h : alt s with
  | true => rw [if_pos rfl]; exact decodeNumber_yes s w hv h hE
  | false => rw [if_neg (by decide)]; exact decodeNumber_no s w hv h hE

set_option maxHeartbeats 1600000 in
theorem decodeDistance_any (s : List UInt8) (w : World) (hv : vld s = true) (hE : Env w) :
    Calls Tryz.prog 96 #[.string (S s)] w (DPost w (dd s)) := by
  have H := Lib.hid (fun W => unnest_any s 1 W hv (by omega))
  have HT := Lib.hid (vld_hd hv).2
  have HE := Lib.hid hE
  clear hE
  have HV := Lib.hid hv; clear hv
  by_cases h0 : s = [48]
  · have HU : Hid (unn 1 s = none) := Lib.hid (by rw [h0]; rfl)
    have HD : Hid (dd s = none) := Lib.hid (by unfold dd; rw [if_pos h0])
    clear h0
    go_enter Tryz.func96, Tryz.ntmps96
    go_wp2_with fail
    refine (H.out _).mono ?_
    rw [HU.out]
    rintro e w1 ⟨rfl, h1⟩
    go_wp2
    go_ret2
    rw [HD.out]
    exact ⟨0, rfl, h1⟩
  · have HU : Hid (unn 1 s = some [hd s, tl s]) := Lib.hid (by simp [unn, h0])
    have HD : Hid (dd s = if hd s = [48] then (if alt (tl s) = true then some (val (tl s)) else none) else if hd s = [49, 48, 48] then (if alt (tl s) = true ∧ 0 < val (tl s) then some (-val (tl s)) else none) else none) := Lib.hid (by unfold dd; rw [if_neg h0])
    clear h0
    have hvl := val_ge (tl s)
    have hvu := val_le (tl s)
    have hlen : (tl s).length ≤ 2000000 := (vld_iff.1 HT.out).1
    go_enter Tryz.func96, Tryz.ntmps96
    go_wp2_with fail
    refine (H.out _).mono ?_
    rw [HU.out]
    rintro e w1 ⟨v, rfl, hown, h1⟩
    obtain ⟨g, cap, rfl, hcap, hg0, hg⟩ := own_cap hown (by simp)
    have c0 := hown.cellAt 0 (by simp)
    have c1 := hown.cellAt 1 (by simp)
    simp only [strsV, List.map_cons, List.map_nil, List.getElem?_cons_zero, List.getElem?_cons_succ] at c0 c1
    have E1 := Lib.hid (HE.out.below h1)
    clear hown
    go_wp2_with fail
    cases ha : alt (tl s) with
    | false =>
      have HA := Lib.hid ha
      refine (decodeNumber_no (tl s) _ HT.out ha E1.out).mono ?_
      rintro e w2 ⟨rfl, h2⟩
      clear ha
      have k0 := (h2.cell (p := ⟨g, 0, none⟩) hg).trans c0
      have hb2 : Below w.heap.size w w2 := h1.trans (h2.mono h1.size)
      have hN : dd s = none := by rw [HD.out, HA.out]; simp
      have HN := Lib.hid hN
      clear hN
      by_cases a0 : hd s = [48]
      · have q0 : (hd s == [48]) = true := by rw [a0]; rfl
        clear a0
        go_wp2
        go_ret2
        rw [HN.out]
        exact ⟨_, rfl, hb2⟩
      · have q0 : (hd s == [48]) = false := beq_eq_false_iff_ne.2 a0
        by_cases a1 : hd s = [49, 48, 48]
        · have q1 : (hd s == [49, 48, 48]) = true := by rw [a1]; rfl
          clear a0 a1
          go_wp2
          go_ret2
          rw [HN.out]
          exact ⟨_, rfl, hb2⟩
        · have q1 : (hd s == [49, 48, 48]) = false := beq_eq_false_iff_ne.2 a1
          clear a0 a1
          go_wp2
          go_ret2
          rw [HN.out]
          exact ⟨_, rfl, hb2⟩
    | true =>
      have HA := Lib.hid ha
      refine (decodeNumber_yes (tl s) _ HT.out ha E1.out).mono ?_
      rintro e w2 ⟨rfl, h2⟩
      clear ha
      have k0 := (h2.cell (p := ⟨g, 0, none⟩) hg).trans c0
      have hb2 : Below w.heap.size w w2 := h1.trans (h2.mono h1.size)
      by_cases a0 : hd s = [48]
      · have HN : Hid (dd s = some (val (tl s))) := Lib.hid (by rw [HD.out, if_pos a0, if_pos HA.out])
        have q0 : (hd s == [48]) = true := by rw [a0]; rfl
        clear a0
        go_wp2
        go_ret2
        rw [HN.out]
        exact ⟨rfl, hb2⟩
      · have q0 : (hd s == [48]) = false := beq_eq_false_iff_ne.2 a0
        by_cases a1 : hd s = [49, 48, 48]
        · have q1 : (hd s == [49, 48, 48]) = true := by rw [a1]; rfl
          by_cases hp : 0 < val (tl s)
          · have HN : Hid (dd s = some (-val (tl s))) := Lib.hid (by rw [HD.out, if_neg a0, if_pos a1, if_pos ⟨HA.out, hp⟩])
            clear a0 a1
            go_wp2
            go_ret2
            rw [HN.out]
            exact ⟨rfl, hb2⟩
          · have HN : Hid (dd s = none) := Lib.hid (by rw [HD.out, if_neg a0, if_pos a1, if_neg (fun h => hp h.2)])
            have hp2 : decide (0 < val (tl s)) = false := decide_eq_false hp
            clear a0 a1 hp
            go_wp2
            go_ret2
            rw [HN.out]
            exact ⟨_, rfl, hb2⟩
        · have q1 : (hd s == [49, 48, 48]) = false := beq_eq_false_iff_ne.2 a1
          have HN : Hid (dd s = none) := Lib.hid (by rw [HD.out, if_neg a0, if_neg a1])
          clear a0 a1
          go_wp2
          go_ret2
          rw [HN.out]
          exact ⟨_, rfl, hb2⟩
end Go.Proofs.YtlfoigkpfooopaaGreatDoor
