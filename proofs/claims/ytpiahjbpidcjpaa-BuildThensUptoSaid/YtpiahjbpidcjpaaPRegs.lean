/- Package code: Regs. By an AI agent. -/
import Derived.Test.YtpiahjbpidcjpaaCV
import Derived.Test.YtpiahjbpidcjpaaRegs
namespace Go.Proofs.Ytpiahjbpidcjpaa
open Go.RowKit Pl

theorem tree_le {ps : List Ins} : ∀ x ∈ ps, x.tree.length ≤ trees ps := by
  induction ps with
  | nil => intro x hx; cases hx
  | cons y ps ih =>
    intro x hx
    have e : trees (y :: ps) = y.tree.length + trees ps := by simp [trees]
    rw [e]
    rcases List.mem_cons.1 hx with rfl | hx
    · omega
    · have := ih x hx; omega
set_option maxHeartbeats 1600000 in
set_option maxRecDepth 100000 in
theorem PRegs_some (w : World) (b off cap : Nat) (ps : List Ins) (hc : ProgAt w b off ps) (h0 : 0 < ps.length) (hp : PValid ps) :
    Calls Try.prog 123 #[.slice (some ⟨b, off, none⟩) ps.length cap] w fun e w' => e = .returned (.tuple #[.int .i64 (regs ps), .int .i64 0]) ∧ Below w.heap.size w w' := by
  have hl := hp.1
  have HV := Lib.hid (CV_arg w (.slice (some ⟨b, off, none⟩) ps.length cap) ps true (.inr ⟨h0, b, off, cap, rfl, hc⟩) (by omega) (fun x hx => by
    have := hp.2.1
    have := tree_le x hx
    omega) (by simp [hp]))
  have HR : Hid (∀ (k : Nat) (x : Ins), ps[k]? = some x → right x k ps.length = true) := Lib.hid hp.2.2
  generalize hnn : ps.length = n at *
  have HN := Lib.hid hnn; have HC := Lib.hid hc
  have hbw : b < w.heap.size := hc.1
  clear hc hp hnn h0
  go_enter Try.func123, Try.ntmps123
  go_wp2_with fail
  refine HV.out.mono ?_
  rintro e w1 ⟨rfl, h1⟩
  clear HV
  go_wp2
  go_loopw [4, 12] (fun v i wr => ∃ k : Nat, k ≤ n ∧ i = .int .i64 k ∧ (∃ r : Int, v = .int .i64 r ∧ 0 ≤ r ∧ r ≤ 100000 ∧ Hid (r + 1 = regsTo ps k)) ∧ Below w.heap.size w wr) (fun _ i _ => n - (intOf i).toNat)
  case atStart => exact ⟨0, Nat.zero_le _, rfl, ⟨0, rfl, by omega, by omega, Lib.hid rfl⟩, h1⟩
  case round =>
    clear h1
    obtain ⟨k, hk, rfl, ⟨r, rfl, hr0, hr1, hrr⟩, hb⟩ := hrel
    have hsz := hb.size
    by_cases hlt : k < n
    · obtain ⟨x, hx⟩ := get_at (ps := ps) (k := k) (by rw [HN.out]; exact hlt)
      have hk1 : (k : Int) < (n : Int) := by omega
      obtain ⟨a0, a1, a2, a3, a4⟩ := HC.out.2 k x hx
      have k0 := (hb.cell (p := ⟨b, off + k * 5, none⟩) hbw).trans a0
      have k1 := (hb.cell (p := ⟨b, off + k * 5 + 1, none⟩) hbw).trans a1
      have k2 := (hb.cell (p := ⟨b, off + k * 5 + 2, none⟩) hbw).trans a2
      have k3 := (hb.cell (p := ⟨b, off + k * 5 + 3, none⟩) hbw).trans a3
      have k4 := (hb.cell (p := ⟨b, off + k * 5 + 4, none⟩) hbw).trans a4
      obtain ⟨⟨xa0, xa1⟩, ⟨xb0, xb1⟩, ⟨xd0, xd1⟩, _⟩ := right_small (HR.out k x hx) (by omega) (by omega) (by omega)
      have HT := Lib.hid (regsTo_succ hx)
      have HB5 := Lib.hid (hb.alloc hsz (.cells #[.int .i64 x.op, .int .i64 x.a, .int .i64 x.b, .int .i64 x.c, .string (S x.tree)] 57))
      clear hx a0 a1 a2 a3 a4 hb
      by_cases h5 : x.op = 5
      · have HX : Hid (max r x.a + 1 = regsTo ps (k + 1)) := Lib.hid (by rw [HT.out, ← hrr.out]; unfold rstep; rw [if_pos h5]; omega)
        rw [h5] at k0 HB5
        clear h5
        go_wp2
        go_roundw
        case rel => exact ⟨k + 1, by omega, by go_num, ⟨_, rfl, by omega, by omega, HX⟩, HB5.out⟩
        case measure => simp [intOf]; omega
      · have h6 : (x.op != 5) = true := by rw [bne_iff_ne]; exact h5
        have HX : Hid (max (max (max r x.a) x.b) x.c + 1 = regsTo ps (k + 1)) := Lib.hid (by rw [HT.out, ← hrr.out]; unfold rstep; rw [if_neg h5]; omega)
        clear h5
        go_wp2
        go_roundw
        case rel => exact ⟨k + 1, by omega, by go_num, ⟨_, rfl, by rw [max_if, max_if]; omega, by rw [max_if, max_if]; omega, Lib.hid (by rw [max_if, max_if]; exact HX.out)⟩, HB5.out⟩
        case measure => simp [intOf]; omega
    · have HT := Lib.hid (regsTo_all (ps := ps) (k := k) (by rw [HN.out]; omega))
      have HU : Hid (r + 1 = regs ps) := Lib.hid (hrr.out.trans HT.out)
      have HB := Lib.hid hb
      go_wp2
      go_ret2
      exact ⟨by rw [← HU.out]; rfl, HB.out⟩

theorem pvalid_nil : PValid [] := ⟨by simp, by simp [trees], fun k x h => by simp at h⟩
set_option maxHeartbeats 1600000 in
set_option maxRecDepth 100000 in
theorem PRegs_none (w : World) (a : Option Addr) (cap : Nat) :
    Calls Try.prog 123 #[.slice a 0 cap] w fun e w' => e = .returned (.tuple #[.int .i64 1, .int .i64 0]) ∧ Below w.heap.size w w' := by
  go_enter Try.func123, Try.ntmps123
  go_wp2_with fail
  refine (CV_none _ a cap).mono ?_
  rintro e w1 ⟨rfl, h1⟩
  go_wp2
  go_loopw [4, 12] (fun v i wr => v = .int .i64 0 ∧ i = .int .i64 0 ∧ Below w.heap.size w wr) (fun _ _ _ => 0)
  case atStart => exact ⟨rfl, rfl, h1⟩
  case round =>
    clear h1
    obtain ⟨rfl, rfl, hb⟩ := hrel
    go_wp2
    go_ret2
    exact ⟨rfl, hb⟩
set_option maxHeartbeats 1600000 in
set_option maxRecDepth 100000 in
theorem PRegs_bad (w : World) (v : Value) (ps : List Ins) (h : ArgP w v ps) (hl : ps.length ≤ 281474976710656) (hz : ∀ x ∈ ps, x.tree.length ≤ 281474976710656) (hr : ¬ PValid ps) :
    Calls Try.prog 123 #[v] w fun e w' => e = .returned (.tuple #[.int .i64 0, .int .i64 1]) ∧ Below w.heap.size w w' := by
  have HV := Lib.hid (CV_arg w v ps false h hl hz (by simp [hr]))
  clear h hl hz hr
  go_enter Try.func123, Try.ntmps123
  go_wp2_with fail
  refine HV.out.mono ?_
  rintro e w1 ⟨rfl, h1⟩
  go_wp2
  go_ret2
  exact ⟨rfl, h1⟩
theorem PRegs_arg (w : World) (v : Value) (ps : List Ins) (h : ArgP w v ps) (hv : PValid ps) :
    Calls Try.prog 123 #[v] w fun e w' => e = .returned (.tuple #[.int .i64 (regs ps), .int .i64 0]) ∧ Below w.heap.size w w' := by
  rcases h with ⟨rfl, h⟩ | ⟨h0, b1, off, cap, rfl, hc⟩
  · obtain ⟨a, cap, rfl⟩ := empty_arg h
    exact PRegs_none w a cap
  · exact PRegs_some w b1 off cap ps hc h0 hv
end Go.Proofs.Ytpiahjbpidcjpaa
