/- The reference's Same, Twin, Regs. By an AI agent. -/
import Derived.Test.YtpiahjbpidcjpaaPros
import Derived.Test.YtpiahjbpidcjpaaLists
import Derived.Laws.AppendOwnNone
namespace Go.Proofs.Ytpiahjbpidcjpaa
open Go.RowKit Pl

theorem Try.infoIns : (Try.prog.info? 57).map (fun i => (i.zero, i.size, i.bytes)) = some (some (.agg #[.int .i64 0, .int .i64 0, .int .i64 0, .int .i64 0, .string ⟨#[]⟩]), 5, 48) := by kernel_rfl

set_option maxHeartbeats 800000 in
set_option maxRecDepth 100000 in
theorem PSame_none (a b : Option Addr) (c d : Nat) (w : World) :
    Calls Try.prog 17 #[.slice a 0 c, .slice b 0 d] w fun e w' => e = .returned (.bool true) ∧ w = w' := by
  go_enter Try.func17, Try.ntmps17
  go_wp2
  go_loop [5] (fun i => i = .int .i64 0) (fun _ => 0)
  case atStart => rfl
  case round =>
    subst hrel
    go_wp2
    go_ret
    exact ⟨rfl, rfl⟩
set_option maxHeartbeats 800000 in
set_option maxRecDepth 100000 in
theorem PSame_len (a b : Option Addr) (m n c d : Nat) (w : World) (h : m ≠ n) :
    Calls Try.prog 17 #[.slice a m c, .slice b n d] w fun e w' => e = .returned (.bool false) ∧ w = w' := by
  have h1 : ((m : Int) != (n : Int)) = true := by rw [bne_iff_ne]; omega
  clear h
  go_enter Try.func17, Try.ntmps17
  go_wp2_with fail
  go_ret
  exact ⟨rfl, rfl⟩
set_option maxHeartbeats 1600000 in
set_option maxRecDepth 100000 in
theorem PSame_some (w : World) (b off cap b2 off2 cap2 : Nat) (ps qs : List Ins) (v : Bool) (h1 : ProgAt w b off ps) (h2 : ProgAt w b2 off2 qs) (hl : ps.length = qs.length) (hm : ps.length ≤ 281474976710656) (hv : v = true ↔ ps = qs) :
    Calls Try.prog 17 #[.slice (some ⟨b, off, none⟩) ps.length cap, .slice (some ⟨b2, off2, none⟩) ps.length cap2] w fun e w' => e = .returned (.bool v) ∧ Below w.heap.size w w' := by
  generalize hnn : ps.length = n at *
  have HN := Lib.hid hnn; have HL := Lib.hid hl; have HV := Lib.hid hv; clear hnn hl hv
  have H1 := Lib.hid h1; have H2 := Lib.hid h2; clear h1 h2
  go_enter Try.func17, Try.ntmps17
  go_wp2
  go_loopw [5] (fun i wr => ∃ k : Nat, k ≤ n ∧ i = .int .i64 k ∧ (∃ q, wr = w.drewN q) ∧ Hid (∀ j : Nat, j < k → ps[j]? = qs[j]?)) (fun i _ => n - (intOf i).toNat)
  case atStart => exact ⟨0, Nat.zero_le _, rfl, ⟨0, rfl⟩, Lib.hid (fun j h => by omega)⟩
  case round =>
    obtain ⟨k, hk, rfl, ⟨q, rfl⟩, hK⟩ := hrel
    by_cases hlt : k < n
    · obtain ⟨x, hx⟩ := get_at (ps := ps) (k := k) (by rw [HN.out]; exact hlt)
      obtain ⟨y, hy⟩ := get_at (ps := qs) (k := k) (by have := HL.out; omega)
      obtain ⟨c0, c1, c2, c3, c4⟩ := H1.out.2 k x hx
      obtain ⟨d0, d1, d2, d3, d4⟩ := H2.out.2 k y hy
      have HX := Lib.hid hx; have HY := Lib.hid hy; clear hx hy
      have i0 : (0 : Int) ≤ (k : Int) := by omega
      have i1 : (k : Int) < (n : Int) := by omega
      have hvf : x ≠ y → v = false := fun hne => by
        cases hv : v with
        | false => rfl
        | true =>
          have h1 := HV.out.1 hv
          have h2 := HX.out
          rw [h1, HY.out] at h2
          cases h2; exact absurd rfl hne
      have HVF := Lib.hid hvf; clear hvf
      have hcl : (∀ j : Nat, j < k → ps[j]? = qs[j]?) → x = y → (∀ j : Nat, j < k + 1 → ps[j]? = qs[j]?) := fun h e j hj => by
        rcases Nat.lt_or_ge j k with h3 | h3
        · exact h j h3
        · obtain rfl : j = k := by omega
          rw [HX.out, HY.out, e]
      have HCL := Lib.hid hcl; clear hcl
      clear HX HY
      obtain ⟨o, a, b', c, t⟩ := x
      obtain ⟨o2, a2, b2', cc2, t2⟩ := y
      simp only at c0 c1 c2 c3 c4 d0 d1 d2 d3 d4
      by_cases e0 : o = o2
      · subst e0
        by_cases e1 : a = a2
        · subst e1
          by_cases e2 : b' = b2'
          · subst e2
            by_cases e3 : c = cc2
            · subst e3
              by_cases e4 : t = t2
              · subst e4
                have HK2 := Lib.hid (HCL.out hK.out rfl)
                clear hK
                go_wp2_with fail
                go_quiet (fail)
                go_wp2
                go_roundw
                case rel => exact ⟨k + 1, by omega, by go_num, ⟨_, rfl⟩, HK2⟩
                case measure => simp [intOf]; omega
              · obtain rfl : v = false := HVF.out (by intro h; injection h with _ _ _ _ h; exact e4 h)
                have n1 : (t == t2) = false := beq_eq_false_iff_ne.2 e4
                clear e4
                go_wp2_with fail
                go_quiet (fail)
                go_wp2
                go_ret
                exact ⟨rfl, bdrewN (bdrewN (Below.refl _ _) _) _⟩
            · obtain rfl : v = false := HVF.out (by intro h; injection h with _ _ _ h _; exact e3 h)
              have n1 : (c == cc2) = false := beq_eq_false_iff_ne.2 e3
              clear e3
              go_wp2_with fail
              go_quiet (fail)
              go_wp2
              go_ret
              exact ⟨rfl, bdrewN (bdrewN (Below.refl _ _) _) _⟩
          · obtain rfl : v = false := HVF.out (by intro h; injection h with _ _ h _ _; exact e2 h)
            have n1 : (b' == b2') = false := beq_eq_false_iff_ne.2 e2
            clear e2
            go_wp2_with fail
            go_quiet (fail)
            go_wp2
            go_ret
            exact ⟨rfl, bdrewN (bdrewN (Below.refl _ _) _) _⟩
        · obtain rfl : v = false := HVF.out (by intro h; injection h with _ h _ _ _; exact e1 h)
          have n1 : (a == a2) = false := beq_eq_false_iff_ne.2 e1
          clear e1
          go_wp2_with fail
          go_quiet (fail)
          go_wp2
          go_ret
          exact ⟨rfl, bdrewN (bdrewN (Below.refl _ _) _) _⟩
      · obtain rfl : v = false := HVF.out (by intro h; injection h with h _ _ _ _; exact e0 h)
        have n1 : (o == o2) = false := beq_eq_false_iff_ne.2 e0
        clear e0
        go_wp2_with fail
        go_quiet (fail)
        go_wp2
        go_ret
        exact ⟨rfl, bdrewN (bdrewN (Below.refl _ _) _) _⟩
    · have hpq : ps = qs := List.ext_getElem? (fun j => by
        rcases Nat.lt_or_ge j k with h3 | h3
        · exact hK.out j h3
        · have := HN.out; have := HL.out
          rw [List.getElem?_eq_none (by omega), List.getElem?_eq_none (by omega)])
      obtain rfl : v = true := HV.out.2 hpq
      clear hpq
      go_wp2
      go_ret
      exact ⟨rfl, bdrewN (Below.refl _ _) _⟩
end Go.Proofs.Ytpiahjbpidcjpaa
