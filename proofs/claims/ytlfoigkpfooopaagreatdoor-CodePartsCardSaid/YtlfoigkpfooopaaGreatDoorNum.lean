/- Numbers in decimal and as trees: parseNumber, decodeNumber, codeNumber, copyTree; what is asked of the library's variables. By an AI agent. -/
import Derived.Test.YtlfoigkpfooopaaGreatDoorNest
import Derived.Test.YtlfoigkpfooopaaGreatDoorShelfC
namespace Go.Proofs.YtlfoigkpfooopaaGreatDoor
open Go.RowKit Pl

/-- what the calls ask of the library's variables -/
structure Env (w : World) : Prop where
  ml : ∃ m, w.cell? ⟨0, 0, none⟩ = some (.int .i64 m)
  tab : Lib.TabIs Tryz.prog w "internal/strconv.uint64pow10" .u64 Lib.pow10Tab
  syn : ∃ tp p, w.var? Tryz.prog "strconv.ErrSyntax" = some #[.iface tp p]
  rng : ∃ tp p, w.var? Tryz.prog "strconv.ErrRange" = some #[.iface tp p]
theorem var_below {P : Program} {w w' : World} {name : String} {v : Array Value} (h : w.var? P name = some v) (hb : Below w.heap.size w w') : w'.var? P name = some v := by
  unfold World.var? at *
  cases hg : P.globalNamed name with
  | none => rw [hg] at h; cases h
  | some g =>
    rw [hg] at h
    simp only [Option.bind_some] at h ⊢
    have hlt : g < w.heap.size := by
      rcases Nat.lt_or_ge g w.heap.size with h1 | h1
      · exact h1
      · rw [Array.getElem?_eq_none h1] at h; cases h
    rw [hb.block g hlt]; exact h
theorem Env.below {w w' : World} (h : Env w) (hb : Below w.heap.size w w') : Env w' :=
  ⟨by obtain ⟨m, hm⟩ := h.ml; exact ⟨m, by rw [hb.cell (p := ⟨0, 0, none⟩) (World.block_lt_of_cell? _ _ hm)]; exact hm⟩, var_below h.tab hb, by obtain ⟨a, b, h⟩ := h.syn; exact ⟨a, b, var_below h hb⟩, by obtain ⟨a, b, h⟩ := h.rng; exact ⟨a, b, var_below h hb⟩⟩

theorem decDigits_dg (n : Nat) : Lib.decDigits n = dg n := by
  induction n using Nat.strongRecOn with
  | ind n ih =>
    rw [Lib.decDigits]
    split
    · rename_i h; rw [dg_small h]
    · rename_i h; rw [ih (n / 10) (by omega)]; exact (dg_step (by omega)).symm
theorem itoa_dint (n : Int) : Lib.itoa n = dint n := by
  unfold Lib.itoa dint
  split
  · rw [decDigits_dg]
  · rw [decDigits_dg, show n.toNat = n.natAbs by omega]
theorem parse10 : ∀ (l : List UInt8) (acc k : Nat), allD l = true → acc < 10 ^ k → k + l.length ≤ 18 → ∃ u, Lib.parseUint10 acc l = .ok u ∧ (u : Int) = l.foldl (fun n c => 10 * n + ((c.toNat : Int) - 48)) acc := by
  intro l
  induction l with
  | nil => intro acc k _ _ _; exact ⟨acc, rfl, rfl⟩
  | cons c l ih =>
    intro acc k hd ha hk
    have h1 := allD_mem hd c (by simp)
    have hd' : allD l = true := by unfold allD at hd ⊢; rw [List.all_cons, Bool.and_eq_true] at hd; exact hd.2
    have hk' : k + 1 + l.length ≤ 18 := by simp at hk; omega
    have hb : acc * 10 + (c.toNat - 48) < 10 ^ (k + 1) := by rw [Nat.pow_succ]; omega
    have hp : (10 : Nat) ^ (k + 1) ≤ 10 ^ 18 := Nat.pow_le_pow_right (by decide) (by omega)
    have hp1 : (10 : Nat) ^ 18 = 1000000000000000000 := by decide
    obtain ⟨u, hu, hv⟩ := ih (acc * 10 + (c.toNat - 48)) (k + 1) hd' hb hk'
    refine ⟨u, ?_, ?_⟩
    · rw [Lib.parseUint10, if_pos h1, if_neg (by omega), if_neg (by omega)]; exact hu
    · rw [List.foldl_cons, hv]; congr 1; omega
theorem atoi_dint {n : Int} (h0 : -99999 ≤ n) (h : n ≤ 99999) : Lib.atoiAll (dint n) = .ok n := by
  have key : ∀ m : Nat, m ≤ 99999 → Lib.parseMag (dg m) = .ok m := by
    intro m hm
    obtain ⟨u, hu, hv⟩ := parse10 (dg m) 0 0 (dg_all m) (by decide) (by have := dg_lt 4 m (by omega); omega)
    have : (u : Int) = m := by rw [hv]; exact dg_numv m
    have hp := dg_pos m
    unfold Lib.parseMag
    rw [if_neg (by intro e; rw [e] at hp; simp at hp), hu]; congr 1; omega
  unfold dint
  split
  · rename_i hn
    unfold Lib.atoiAll
    simp only [show (45 : UInt8).toNat = 45 from rfl, or_true, if_true, key _ (show n.natAbs ≤ 99999 by omega)]
    rw [if_neg (by simp), if_neg (by simp; omega)]
    simp; omega
  · rename_i hn
    have hp := dg_pos n.natAbs
    cases hd : dg n.natAbs with
    | nil => rw [hd] at hp; simp at hp
    | cons c r =>
      have hc := allD_mem (dg_all n.natAbs) c (by rw [hd]; simp)
      unfold Lib.atoiAll
      have n45 : ¬ c.toNat = 45 := by omega
      have n43 : ¬ c.toNat = 43 := by omega
      have hk := key _ (show n.natAbs ≤ 99999 by omega)
      rw [hd] at hk
      simp only [n45, n43, or_self, if_false, hk]
      rw [if_neg (by simp; omega), if_neg (by simp)]
      congr 1; omega

/-- the number that a string spells just as a program's string does -/
def pn (s : List UInt8) : Option Int := match Lib.atoiAll s with | .ok v => if Lib.itoa v = s then some v else none | _ => none
theorem pn_some {s : List UInt8} {v : Int} (h : pn s = some v) : dint v = s := by
  unfold pn at h
  split at h
  · split at h
    · rename_i h1; cases h; rw [← itoa_dint]; exact h1
    · cases h
  · cases h
theorem pn_dint {n : Int} (h0 : -99999 ≤ n) (h : n ≤ 99999) : pn (dint n) = some n := by unfold pn; rw [atoi_dint h0 h]; simp only [itoa_dint, if_true]

theorem below_bytes (w : World) (e : TypeId) (s : ByteArray) : Below w.heap.size w (Lib.bytesWorld w e s) := ⟨rfl, rfl, rfl, by rw [Lib.bytesWorld_size]; omega, fun k hk => Lib.bytesWorld_at_old w e s k hk⟩
theorem below_grow (w : World) (k : Nat) (os : Array Obj) : Below w.heap.size w (Go.Sort.grow (w.drewN k) os) :=
  ⟨rfl, rfl, rfl, by simp [Go.Sort.grow, World.drewN], fun j hj => by show (w.heap ++ os)[j]? = _; rw [Array.getElem?_append_left hj]⟩
theorem Itoa_any (n : Int) (w : World) (h0 : -9223372036854775808 ≤ n) (h1 : n ≤ 9223372036854775807) (hE : Env w) :
    Calls Tryz.prog 80 #[.int .i64 n] w fun e w' => e = .returned (.string (S (Lib.itoa n))) ∧ Below w.heap.size w w' :=
  (Tryz.strconv_Itoa n h0 h1 w hE.tab).mono fun e w' h => by
    obtain ⟨he, k, os, rfl⟩ := h
    exact ⟨he, below_grow w k os⟩
theorem Atoi_ok (s : ByteArray) (v : Int) (w : World) (hs : s.size ≤ 281474976710656) (h : Lib.atoiAll s.data.toList = .ok v) :
    Calls Tryz.prog 110 #[.string s] w fun e w' => e = .returned (.tuple #[.int .i64 v, .nilIface]) ∧ Below w.heap.size w w' :=
  (Tryz.strconv_Atoi_ok s (by omega) v h w).mono fun e w' h => by
    obtain ⟨he, rfl | ⟨t, rfl⟩⟩ := h
    · exact ⟨he, Below.refl _ _⟩
    · exact ⟨he, below_bytes _ _ _⟩
def AtoiBad (w : World) (e : Ending) (w' : World) : Prop := ∃ n t p, e = .returned (.tuple #[.int .i64 n, .iface t p]) ∧ Below w.heap.size w w'
theorem Atoi_bad (s : ByteArray) (w : World) (hs : s.size ≤ 281474976710656) (h : ∀ v, Lib.atoiAll s.data.toList ≠ .ok v) (hE : Env w) :
    Calls Tryz.prog 110 #[.string s] w (AtoiBad w) := by
  by_cases ha : Lib.atoiAll s.data.toList = .range
  · obtain ⟨tp, p, hv⟩ := hE.rng
    exact (Tryz.strconv_Atoi_range_var s hs ha tp p w hv).mono fun e w' h => by
      obtain ⟨N, he, _, _, hb⟩ := h
      exact ⟨_, _, _, he, hb⟩
  · obtain ⟨tp, p, hv⟩ := hE.syn
    exact (Tryz.strconv_Atoi_syntax_var s hs h ha tp p w hv).mono fun e w' h => by
      obtain ⟨N, he, _, _, hb⟩ := h
      exact ⟨_, _, _, he, hb⟩
theorem atoi_range {l : List UInt8} {v : Int} (h : Lib.atoiAll l = .ok v) : -9223372036854775808 ≤ v ∧ v ≤ 9223372036854775807 := by
  have := Lib.atoiAll_bounds h; omega

def PNo (w : World) (e : Ending) (w' : World) : Prop := ∃ n : Int, e = .returned (.tuple #[.int .i64 n, .bool false]) ∧ Below w.heap.size w w'

set_option maxHeartbeats 800000 in
theorem parseNumber_itoa (v : Int) (w : World) (hz : (S (Lib.itoa v)).size ≤ 281474976710656) (h : Lib.atoiAll (Lib.itoa v) = .ok v) (hE : Env w) :
    Calls Tryz.prog 83 #[.string (S (Lib.itoa v))] w fun e w' => e = .returned (.tuple #[.int .i64 v, .bool true]) ∧ Below w.heap.size w w' := by
  obtain ⟨r0, r1⟩ := atoi_range h
  have H := Lib.hid h; have HZ := Lib.hid hz; have HE := Lib.hid hE; clear h hz hE
  go_enter Tryz.func83, Tryz.ntmps83
  go_wp2_with fail
  refine (Atoi_ok _ v _ HZ.out H.out).mono ?_
  rintro e w1 ⟨rfl, h1⟩
  have E1 := Lib.hid (HE.out.below h1)
  go_wp2_with fail
  refine (Itoa_any v _ r0 r1 E1.out).mono ?_
  rintro e w2 ⟨rfl, h2⟩
  go_wp2
  go_ret2
  exact ⟨rfl, h1.trans (h2.mono h1.size)⟩
theorem parseNumber_yes (s : ByteArray) (v : Int) (w : World) (hs : s.size ≤ 281474976710656) (h : pn s.data.toList = some v) (hE : Env w) :
    Calls Tryz.prog 83 #[.string s] w fun e w' => e = .returned (.tuple #[.int .i64 v, .bool true]) ∧ Below w.heap.size w w' := by
  unfold pn at h
  split at h
  · rename_i u hu
    split at h
    · rename_i h1; cases h
      have hS : S (Lib.itoa v) = s := by rw [h1]
      rw [← hS]
      exact parseNumber_itoa v w (by rw [hS]; exact hs) (by rw [h1]; exact hu) hE
    · cases h
  · cases h

set_option maxHeartbeats 800000 in
theorem parseNumber_bad (s : ByteArray) (w : World) (hs : s.size ≤ 281474976710656) (h : ∀ v, Lib.atoiAll s.data.toList ≠ .ok v) (hE : Env w) :
    Calls Tryz.prog 83 #[.string s] w (PNo w) := by
  have H := Lib.hid (Atoi_bad s w hs h hE); clear h
  go_enter Tryz.func83, Tryz.ntmps83
  go_wp2_with fail
  refine H.out.mono ?_
  rintro e w1 ⟨n, t, p, rfl, h1⟩
  go_wp2
  go_ret2
  exact ⟨n, rfl, h1⟩

set_option maxHeartbeats 800000 in
theorem parseNumber_other (l : List UInt8) (v : Int) (w : World) (hs : (S l).size ≤ 281474976710656) (h : Lib.atoiAll l = .ok v) (hn : Lib.itoa v ≠ l) (hE : Env w) :
    Calls Tryz.prog 83 #[.string (S l)] w (PNo w) := by
  obtain ⟨r0, r1⟩ := atoi_range h
  have n2 : (Lib.itoa v == l) = false := beq_eq_false_iff_ne.2 hn
  have H := Lib.hid h; have HE := Lib.hid hE; have HS := Lib.hid hs; clear h hE hn hs
  go_enter Tryz.func83, Tryz.ntmps83
  go_wp2_with fail
  refine (Atoi_ok _ v _ HS.out H.out).mono ?_
  rintro e w1 ⟨rfl, h1⟩
  have E1 := Lib.hid (HE.out.below h1)
  go_wp2_with fail
  refine (Itoa_any v _ r0 r1 E1.out).mono ?_
  rintro e w2 ⟨rfl, h2⟩
  go_wp2
  go_ret2
  exact ⟨v, rfl, h1.trans (h2.mono h1.size)⟩
theorem parseNumber_no (s : ByteArray) (w : World) (hs : s.size ≤ 281474976710656) (h : pn s.data.toList = none) (hE : Env w) :
    Calls Tryz.prog 83 #[.string s] w (PNo w) := by
  unfold pn at h
  split at h
  · rename_i u hu
    split at h
    · cases h
    · rename_i h1; exact parseNumber_other s.data.toList u w hs hu h1 hE
  · rename_i h1; exact parseNumber_bad s w hs (fun v hv => h1 v hv) hE

/-- a valid tree that is a number, as a number -/
theorem decodeNumber_yes (s : List UInt8) (w : World) (hv : vld s = true) (ha : alt s = true) (hE : Env w) :
    Calls Tryz.prog 70 #[.string (S s)] w fun e w' => e = .returned (.tuple #[.int .i64 (val s), .bool true]) ∧ Below w.heap.size w w' := by
  obtain ⟨m, hm⟩ := hE.ml
  have H := Lib.hid (Value_num (S s) m w hv hm ha); clear hv ha hm
  go_enter Tryz.func70, Tryz.ntmps70
  go_wp2_with fail
  refine H.out.mono ?_
  rintro e w1 ⟨rfl, h1⟩
  go_wp2
  go_ret2
  exact ⟨rfl, h1⟩
theorem decodeNumber_no (s : List UInt8) (w : World) (hv : vld s = true) (ha : alt s = false) (hE : Env w) :
    Calls Tryz.prog 70 #[.string (S s)] w fun e w' => e = .returned (.tuple #[.int .i64 0, .bool false]) ∧ Below w.heap.size w w' := by
  obtain ⟨m, hm⟩ := hE.ml
  have H := Lib.hid (Value_none (S s) m w hv hm ha); clear hv ha hm
  go_enter Tryz.func70, Tryz.ntmps70
  go_wp2_with fail
  refine H.out.mono ?_
  rintro e w1 ⟨rfl, h1⟩
  go_wp2
  go_ret2
  exact ⟨rfl, h1⟩
theorem codeNumber_yes (n : Nat) (w : World) (h : n ≤ 999999) :
    Calls Tryz.prog 60 #[.int .i64 n] w fun e w' => e = .returned (.string (S (num n))) ∧ Below w.heap.size w w' := by
  go_enter Tryz.func60, Tryz.ntmps60
  go_wp2_with fail
  refine (Number_yes n _ h).mono ?_
  rintro e w1 ⟨rfl, h1⟩
  go_wp2
  go_ret
  exact ⟨rfl, h1⟩
theorem copyTree_any (s : ByteArray) (w : World) (hs : s.size ≤ 281474976710656) :
    Calls Tryz.prog 88 #[.string s] w fun e w' => e = .returned (.tuple #[.string s, .bool (vld s.data.toList)]) ∧ Below w.heap.size w w' := by
  have H := Lib.hid (fun W => Valid_is (vld s.data.toList) s W hs rfl)
  go_enter Tryz.func88, Tryz.ntmps88
  go_wp2_with fail
  refine (Clone_any s _ hs).mono ?_
  rintro e w1 ⟨rfl, h1⟩
  go_wp2_with fail
  refine (H.out _).mono ?_
  rintro e w2 ⟨rfl, h2⟩
  go_wp2
  go_ret2
  exact ⟨rfl, h1.trans (h2.mono h1.size)⟩
end Go.Proofs.YtlfoigkpfooopaaGreatDoor
