/- The reference's Regs. By an AI agent. -/
import Derived.Test.YtpiahjbpidcjpaaCodesB
namespace Go.Proofs.Ytpiahjbpidcjpaa
open Go.RowKit Pl

def rstep (n : Int) (x : Ins) : Int := if x.op = 5 then max n (x.a + 1) else max (max (max n (x.a + 1)) (x.b + 1)) (x.c + 1)
def regsTo (ps : List Ins) (k : Nat) : Int := (ps.take k).foldl rstep 1
def regs (ps : List Ins) : Int := ps.foldl rstep 1
theorem max_if (a b : Int) : (if a < b then b else a) = max a b := by split <;> omega
theorem regsTo_succ {ps : List Ins} {k : Nat} {x : Ins} (h : ps[k]? = some x) : regsTo ps (k + 1) = rstep (regsTo ps k) x := by
  obtain ⟨hk, rfl⟩ := List.getElem?_eq_some_iff.1 h
  unfold regsTo
  rw [List.take_succ_eq_append_getElem hk, List.foldl_append]; rfl
theorem regsTo_all {ps : List Ins} {k : Nat} (h : ps.length ≤ k) : regsTo ps k = regs ps := by unfold regsTo regs; rw [List.take_of_length_le h]
theorem right_small {x : Ins} {i n : Int} (h : right x i n = true) (hi0 : 0 ≤ i) (hi : i ≤ 4000) (hn : n ≤ 4000) : (0 ≤ x.a ∧ x.a < 32) ∧ (-4000 ≤ x.b ∧ x.b ≤ 4000) ∧ (0 ≤ x.c ∧ x.c < 32) ∧ (x.op ≠ 5 → 0 ≤ x.b ∧ x.b < 32) := by
  obtain ⟨ha, hc⟩ := right_cases h
  have h1 := reg_true ha
  rcases hc with ⟨ho, hb, hc, _⟩ | ⟨ho, hb, hc, _⟩ | ⟨ho, hb, hc, _⟩ | ⟨ho, hc, _, hb1, hb2⟩
  · omega
  · have h2 := reg_true hb; omega
  · have h2 := reg_true hb; have h3 := reg_true hc; omega
  · omega

set_option maxHeartbeats 1600000 in
set_option maxRecDepth 100000 in
theorem Regs_some (w : World) (b off cap : Nat) (ps : List Ins) (hc : ProgAt w b off ps) (hm : ps.length ≤ 4000) (hr : AllR ps) :
    Calls Try.prog 52 #[.slice (some ⟨b, off, none⟩) ps.length cap] w fun e w' => e = .returned (.int .i64 (regs ps)) ∧ Below w.heap.size w w' := by
  have HR : Hid (∀ (k : Nat) (x : Ins), ps[k]? = some x → right x k ps.length = true) := Lib.hid hr
  generalize hnn : ps.length = n at *
  have HN := Lib.hid hnn; have HC := Lib.hid hc
  clear hc hr hnn
  go_enter Try.func52, Try.ntmps52
  go_wp2
  go_loopw [3, 4] (fun v i wr => ∃ k : Nat, k ≤ n ∧ i = .int .i64 k ∧ (∃ r : Int, v = .int .i64 r ∧ -100000 ≤ r ∧ r ≤ 100000 ∧ Hid (r = regsTo ps k)) ∧ ∃ q, wr = w.drewN q) (fun _ i _ => n - (intOf i).toNat)
  case atStart => exact ⟨0, Nat.zero_le _, rfl, ⟨1, rfl, by omega, by omega, Lib.hid rfl⟩, 0, rfl⟩
  case round =>
    obtain ⟨k, hk, rfl, ⟨r, rfl, hr0, hr1, hrr⟩, q, rfl⟩ := hrel
    by_cases hlt : k < n
    · obtain ⟨x, hx⟩ := get_at (ps := ps) (k := k) (by rw [HN.out]; exact hlt)
      obtain ⟨c0, c1, c2, c3, c4⟩ := HC.out.2 k x hx
      obtain ⟨⟨a0, a1⟩, ⟨b0, b1⟩, ⟨d0, d1⟩, _⟩ := right_small (HR.out k x hx) (by omega) (by omega) (by omega)
      have HT := Lib.hid (regsTo_succ hx)
      clear hx c4
      by_cases h5 : x.op = 5
      · have h6 : (x.op != 5) = false := by rw [h5]; rfl
        have HX : Hid (max r (x.a + 1) = regsTo ps (k + 1)) := Lib.hid (by rw [HT.out, ← hrr.out]; unfold rstep; rw [if_pos h5])
        rw [h5] at c0
        clear h6 h5
        go_wp2
        go_roundw
        case rel => exact ⟨k + 1, by omega, by go_num, ⟨_, rfl, by omega, by omega, HX⟩, _, rfl⟩
        case measure => simp [intOf]; omega
      · have h6 : (x.op != 5) = true := by rw [bne_iff_ne]; exact h5
        have HX : Hid (max (max (max r (x.a + 1)) (x.b + 1)) (x.c + 1) = regsTo ps (k + 1)) := Lib.hid (by rw [HT.out, ← hrr.out]; unfold rstep; rw [if_neg h5])
        clear h5
        go_wp2
        go_quiet (fail)
        go_wp2
        go_roundw
        case rel => exact ⟨k + 1, by omega, by go_num, ⟨_, rfl, by rw [max_if, max_if]; omega, by rw [max_if, max_if]; omega, Lib.hid (by rw [max_if, max_if]; exact HX.out)⟩, _, rfl⟩
        case measure => simp [intOf]; omega
    · have HT := Lib.hid (regsTo_all (ps := ps) (k := k) (by rw [HN.out]; omega))
      have HU := Lib.hid (hrr.out.trans HT.out)
      go_wp2
      go_ret
      exact ⟨ret_int HU.out, bdrewN (Below.refl _ _) _⟩
set_option maxHeartbeats 800000 in
set_option maxRecDepth 100000 in
theorem Regs_none (w : World) (a : Option Addr) (cap : Nat) :
    Calls Try.prog 52 #[.slice a 0 cap] w fun e w' => e = .returned (.int .i64 1) ∧ Below w.heap.size w w' := by
  go_enter Try.func52, Try.ntmps52
  go_wp2
  go_loop [3, 4] (fun v i => v = .int .i64 1 ∧ i = .int .i64 0) (fun _ _ => 0)
  case atStart => exact ⟨rfl, rfl⟩
  case round =>
    obtain ⟨rfl, rfl⟩ := hrel
    go_wp2
    go_ret
    exact ⟨rfl, Below.refl _ _⟩
theorem Regs_arg (w : World) (v : Value) (ps : List Ins) (h : ArgP w v ps) (hv : PValid ps) :
    Calls Try.prog 52 #[v] w fun e w' => e = .returned (.int .i64 (regs ps)) ∧ Below w.heap.size w w' := by
  rcases h with ⟨rfl, h⟩ | ⟨h0, b, off, cap, rfl, hc⟩
  · obtain ⟨a, cap, rfl⟩ := empty_arg h
    exact Regs_none w a cap
  · exact Regs_some w b off cap ps hc hv.1 hv.2.2
end Go.Proofs.Ytpiahjbpidcjpaa
