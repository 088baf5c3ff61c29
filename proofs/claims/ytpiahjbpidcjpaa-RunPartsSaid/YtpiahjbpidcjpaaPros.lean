/- Programs in memory; the reference's Trees, Valid, Same, Twin, Regs. By an AI agent. -/
import Derived.Test.YtpiahjbpidcjpaaIns
import Derived.Laws.StructEq
namespace Go.Proofs.Ytpiahjbpidcjpaa
open Go.RowKit Pl

/-- cells of a slice of instructions -/
def ProgAt (w : World) (b off : Nat) (ps : List Ins) : Prop :=
  b < w.heap.size ∧ ∀ k x, ps[k]? = some x → w.cell? ⟨b, off + k * 5, none⟩ = some (.int .i64 x.op) ∧ w.cell? ⟨b, off + k * 5 + 1, none⟩ = some (.int .i64 x.a) ∧
    w.cell? ⟨b, off + k * 5 + 2, none⟩ = some (.int .i64 x.b) ∧ w.cell? ⟨b, off + k * 5 + 3, none⟩ = some (.int .i64 x.c) ∧ w.cell? ⟨b, off + k * 5 + 4, none⟩ = some (.string (S x.tree))
theorem ProgAt.below {w w1 : World} {b off : Nat} {ps : List Ins} (h : ProgAt w b off ps) (hb : Below w.heap.size w w1) : ProgAt w1 b off ps := by
  refine ⟨Nat.lt_of_lt_of_le h.1 hb.size, fun k x hk => ?_⟩
  have := h.2 k x hk
  have e : ∀ o, w1.cell? ⟨b, o, none⟩ = w.cell? ⟨b, o, none⟩ := fun o => hb.cell (p := ⟨b, o, none⟩) h.1
  simpa only [e] using this
theorem get_at {ps : List Ins} {k : Nat} (h : k < ps.length) : ∃ x, ps[k]? = some x := ⟨ps[k], List.getElem?_eq_getElem h⟩
/-- a value that reads as a program -/
def ArgP (w : World) (v : Value) (ps : List Ins) : Prop :=
  (ps = [] ∧ (v = .slice none 0 0 ∨ ∃ ad cap, v = .slice (some ad) 0 cap)) ∨ (0 < ps.length ∧ ∃ b off cap, v = .slice (some ⟨b, off, none⟩) ps.length cap ∧ ProgAt w b off ps)
theorem ArgP.below {w w1 : World} {v : Value} {ps : List Ins} (h : ArgP w v ps) (hb : Below w.heap.size w w1) : ArgP w1 v ps := by
  rcases h with h | ⟨h0, b, off, cap, h1, h2⟩
  · exact Or.inl h
  · exact Or.inr ⟨h0, b, off, cap, h1, h2.below hb⟩

theorem empty_arg {v : Value} (h : v = .slice none 0 0 ∨ ∃ ad cap, v = .slice (some ad) 0 cap) : ∃ a cap, v = .slice a 0 cap := by
  rcases h with h | ⟨ad, cap, h⟩
  · exact ⟨_, _, h⟩
  · exact ⟨_, _, h⟩

/-- the characters of the trees of the first k instructions -/
def treesTo (ps : List Ins) (k : Nat) : Nat := ((ps.take k).map fun x => x.tree.length).sum
def trees (ps : List Ins) : Nat := (ps.map fun x => x.tree.length).sum
theorem treesTo_succ {ps : List Ins} {k : Nat} {x : Ins} (h : ps[k]? = some x) : treesTo ps (k + 1) = treesTo ps k + x.tree.length := by
  obtain ⟨hk, rfl⟩ := List.getElem?_eq_some_iff.1 h
  unfold treesTo
  rw [List.take_succ_eq_append_getElem hk, List.map_append, List.sum_append]
  simp only [List.map_cons, List.map_nil, List.sum_cons, List.sum_nil, Nat.add_zero]
theorem treesTo_all {ps : List Ins} {k : Nat} (h : ps.length ≤ k) : treesTo ps k = trees ps := by unfold treesTo trees; rw [List.take_of_length_le h]
theorem treesTo_top {ps : List Ins} (k : Nat) : treesTo ps k ≤ trees ps := by
  have h := List.take_append_drop k ps
  have : trees ps = treesTo ps k + trees (ps.drop k) := by
    unfold treesTo trees
    rw [← List.sum_append, ← List.map_append, h]
  omega
theorem treesTo_le {ps : List Ins} (hz : ∀ x ∈ ps, x.tree.length ≤ 281474976710656) : ∀ k, treesTo ps k ≤ k * 281474976710656 := by
  intro k
  induction k with
  | zero => simp [treesTo]
  | succ k ih =>
    rcases Nat.lt_or_ge k ps.length with h | h
    · obtain ⟨x, hx⟩ := get_at h
      have := hz x (List.mem_of_getElem? hx)
      rw [treesTo_succ hx]; omega
    · have : treesTo ps (k + 1) = treesTo ps k := by rw [treesTo_all (by omega), treesTo_all h]
      omega

set_option maxHeartbeats 800000 in
set_option maxRecDepth 100000 in
theorem Trees_none (w : World) (a : Option Addr) (cap : Nat) :
    Calls Try.prog 75 #[.slice a 0 cap] w fun e w' => e = .returned (.int .i64 0) ∧ w = w' := by
  go_enter Try.func75, Try.ntmps75
  go_wp2
  go_loop [3, 4] (fun n i => i = .int .i64 0 ∧ n = .int .i64 0) (fun _ _ => 0)
  case atStart => exact ⟨rfl, rfl⟩
  case round =>
    obtain ⟨rfl, rfl⟩ := hrel
    go_wp2
    go_ret
    exact ⟨rfl, rfl⟩
set_option maxHeartbeats 800000 in
set_option maxRecDepth 100000 in
theorem Trees_some (w : World) (b off cap : Nat) (ps : List Ins) (hc : ProgAt w b off ps) (hm : ps.length ≤ 4000) (hz : ∀ x ∈ ps, x.tree.length ≤ 281474976710656) :
    Calls Try.prog 75 #[.slice (some ⟨b, off, none⟩) ps.length cap] w fun e w' => e = .returned (.int .i64 (trees ps)) ∧ w = w' := by
  generalize hnn : ps.length = n at *
  have HN := Lib.hid hnn; have HC := Lib.hid hc; have HZ := Lib.hid hz; have HL := Lib.hid (treesTo_le hz); clear hnn hc hz
  go_enter Try.func75, Try.ntmps75
  go_wp2
  go_loop [3, 4] (fun t i => ∃ k : Nat, k ≤ n ∧ i = .int .i64 k ∧ t = .int .i64 (treesTo ps k)) (fun _ i => n - (intOf i).toNat)
  case atStart => exact ⟨0, Nat.zero_le _, rfl, rfl⟩
  case round =>
    obtain ⟨k, hk, rfl, rfl⟩ := hrel
    have hle := HL.out k
    by_cases hlt : k < n
    · obtain ⟨x, hx⟩ := get_at (ps := ps) (k := k) (by rw [HN.out]; exact hlt)
      have hcell := (HC.out.2 k x hx).2.2.2.2
      have hxl := HZ.out x (List.mem_of_getElem? hx)
      have HT := Lib.hid (treesTo_succ hx)
      clear hx
      go_wp2
      go_round
      case rel => exact ⟨k + 1, by omega, by go_num, by rw [HT.out]; go_num⟩
      case measure => simp [intOf]; omega
    · have HT := Lib.hid (treesTo_all (ps := ps) (k := k) (by rw [HN.out]; omega))
      go_wp2
      go_ret
      exact ⟨ret_int (by rw [HT.out]), rfl⟩
theorem Trees_arg (w : World) (v : Value) (ps : List Ins) (h : ArgP w v ps) (hm : ps.length ≤ 4000) (hz : ∀ x ∈ ps, x.tree.length ≤ 281474976710656) :
    Calls Try.prog 75 #[v] w fun e w' => e = .returned (.int .i64 (trees ps)) ∧ w = w' := by
  rcases h with ⟨rfl, h⟩ | ⟨_, b, off, cap, rfl, hc⟩
  · obtain ⟨a, cap, rfl⟩ := empty_arg h
    exact Trees_none w a cap
  · exact Trees_some w b off cap ps hc hm hz

def AllR (ps : List Ins) : Prop := ∀ (k : Nat) (x : Ins), ps[k]? = some x → right x k ps.length = true
def PValid (ps : List Ins) : Prop := ps.length ≤ 4000 ∧ trees ps ≤ 2000000 ∧ AllR ps
theorem right_tree_le {x : Ins} {i n : Int} (h : right x i n = true) : x.tree.length ≤ 2000000 := by
  by_cases h0 : x.op = 0
  · simp only [right, h0, Bool.and_eq_true, if_true] at h
    exact (vld_iff.1 h.2.2).1
  · simp only [right, Bool.and_eq_true, Bool.or_eq_true] at h
    have : x.tree = [] := by
      rcases h.1.1.2 with h1 | h1
      · exact absurd (by simpa using h1) h0
      · simpa using h1
    rw [this]; simp

set_option maxHeartbeats 800000 in
set_option maxRecDepth 100000 in
theorem PV_long (w : World) (a : Option Addr) (n cap : Nat) (h : 4000 < n) (h2 : n ≤ 281474976710656) :
    Calls Try.prog 19 #[.slice a n cap] w fun e w' => e = .returned (.bool false) ∧ Below w.heap.size w w' := by
  go_enter Try.func19, Try.ntmps19
  go_wp2_with fail
  go_ret
  exact ⟨rfl, Below.refl _ _⟩
set_option maxHeartbeats 800000 in
set_option maxRecDepth 100000 in
theorem PV_none (w : World) (a : Option Addr) (cap : Nat) :
    Calls Try.prog 19 #[.slice a 0 cap] w fun e w' => e = .returned (.bool true) ∧ Below w.heap.size w w' := by
  go_enter Try.func19, Try.ntmps19
  go_wp2_with fail
  refine (Trees_none _ a cap).mono ?_
  rintro e w1 ⟨rfl, rfl⟩
  go_wp2_with fail
  go_loop [3] (fun i => i = .int .i64 0) (fun _ => 0)
  case atStart => rfl
  case round =>
    subst hrel
    go_wp2_with fail
    go_ret
    exact ⟨rfl, Below.refl _ _⟩
set_option maxHeartbeats 800000 in
set_option maxRecDepth 100000 in
theorem PV_trees (w : World) (b off cap : Nat) (ps : List Ins) (hc : ProgAt w b off ps) (hm : ps.length ≤ 4000) (hz : ∀ x ∈ ps, x.tree.length ≤ 281474976710656) (ht : 2000000 < trees ps) :
    Calls Try.prog 19 #[.slice (some ⟨b, off, none⟩) ps.length cap] w fun e w' => e = .returned (.bool false) ∧ Below w.heap.size w w' := by
  have HT := Lib.hid (Trees_some w b off cap ps hc hm hz)
  have h1 : (2000000 : Int) < (trees ps : Int) := by omega
  generalize trees ps = q at *
  clear hc hz ht
  go_enter Try.func19, Try.ntmps19
  go_wp2_with fail
  refine HT.out.mono ?_
  rintro e w1 ⟨rfl, rfl⟩
  go_wp2_with fail
  go_ret
  exact ⟨rfl, Below.refl _ _⟩
theorem PV_step (x : Ins) (k n : Nat) (v : Bool) (hk : k ≤ 4000) (hn : n ≤ 4000) (hl : x.tree.length ≤ 281474976710656) (hv : right x k n = v) (W : World) :
    Calls Try.prog 76 #[.agg #[.int .i64 x.op, .int .i64 x.a, .int .i64 x.b, .int .i64 x.c, .string (S x.tree)], .int .i64 k, .int .i64 n] W fun e w' => e = .returned (.bool v) ∧ Below W.heap.size W w' := by
  rw [← hv]; exact right_any x k n W (by omega) (by omega) (by omega) (by omega) hl
set_option maxHeartbeats 1600000 in
set_option maxRecDepth 100000 in
theorem PV_some (w : World) (b off cap : Nat) (ps : List Ins) (v : Bool) (hc : ProgAt w b off ps) (hm : ps.length ≤ 4000) (hz : ∀ x ∈ ps, x.tree.length ≤ 281474976710656) (ht : trees ps ≤ 2000000) (hv : v = true ↔ AllR ps) :
    Calls Try.prog 19 #[.slice (some ⟨b, off, none⟩) ps.length cap] w fun e w' => e = .returned (.bool v) ∧ Below w.heap.size w w' := by
  have HT := Lib.hid (Trees_some w b off cap ps hc hm hz)
  have h1 : (trees ps : Int) ≤ 2000000 := by omega
  have HA : Hid (v = true ↔ ∀ (k : Nat) (x : Ins), ps[k]? = some x → right x k ps.length = true) := Lib.hid hv
  generalize trees ps = q at *
  generalize hnn : ps.length = n at *
  have HN := Lib.hid hnn; have HC := Lib.hid hc; have HZ := Lib.hid hz
  clear hc hz ht hv hnn
  go_enter Try.func19, Try.ntmps19
  go_wp2_with fail
  refine HT.out.mono ?_
  rintro e w1 ⟨rfl, rfl⟩
  go_wp2_with fail
  go_loopw [3] (fun i wr => ∃ k : Nat, k ≤ n ∧ i = .int .i64 k ∧ Below w.heap.size w wr ∧ Hid (∀ (j : Nat) (x : Ins), j < k → ps[j]? = some x → right x j n = true)) (fun i _ => n - (intOf i).toNat)
  case atStart => exact ⟨0, Nat.zero_le _, rfl, Below.refl _ _, Lib.hid (fun j x h => by omega)⟩
  case round =>
    obtain ⟨k, hk, rfl, hb, hK⟩ := hrel
    by_cases hlt : k < n
    · obtain ⟨x, hx⟩ := get_at (ps := ps) (k := k) (by rw [HN.out]; exact hlt)
      have hcell := (HC.out.below hb).2 k x hx
      obtain ⟨c0, c1, c2, c3, c4⟩ := hcell
      have hxl := HZ.out x (List.mem_of_getElem? hx)
      have HX := Lib.hid hx; clear hx
      cases hr : right x k n with
      | true =>
        have HR := Lib.hid (PV_step x k n true (by omega) hm hxl hr)
        have HRR := Lib.hid hr; clear hr
        go_wp2_with fail
        refine (HR.out _).mono ?_
        rintro e w2 ⟨rfl, hb2⟩
        go_wp2_with fail
        go_roundw
        case rel => exact ⟨k + 1, by omega, by go_num, hb.trans (hb2.mono hb.size), Lib.hid (fun j y h1 h2 => by
          rcases Nat.lt_or_ge j k with h | h
          · exact hK.out j y h h2
          · obtain rfl : j = k := by omega
            rw [HX.out] at h2; cases h2; exact HRR.out)⟩
        case measure => simp [intOf]; omega
      | false =>
        have HR := Lib.hid (PV_step x k n false (by omega) hm hxl hr)
        have hvf : v = false := by
          cases v with
          | false => rfl
          | true => have := HA.out.1 rfl k x HX.out; rw [hr] at this; cases this
        subst hvf
        clear hr
        go_wp2_with fail
        refine (HR.out _).mono ?_
        rintro e w2 ⟨rfl, hb2⟩
        go_wp2_with fail
        go_ret
        exact ⟨rfl, hb.trans (hb2.mono hb.size)⟩
    · have hvt : v = true := HA.out.2 (fun j x hx => hK.out j x (by have := (List.getElem?_eq_some_iff.1 hx).1; have := HN.out; omega) hx)
      subst hvt
      go_wp2_with fail
      go_ret
      exact ⟨rfl, hb⟩
end Go.Proofs.Ytpiahjbpidcjpaa
