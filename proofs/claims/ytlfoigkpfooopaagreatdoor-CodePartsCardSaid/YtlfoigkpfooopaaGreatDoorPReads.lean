/- Package code: Decode. By an AI agent. -/
import Derived.Test.YtlfoigkpfooopaaGreatDoorPlains
import Derived.Test.YtlfoigkpfooopaaGreatDoorTreeItems
namespace Go.Proofs.YtlfoigkpfooopaaGreatDoor
open Go.RowKit Pl

/-- a valid program, or none and an error -/
def PRes (w : World) (r : Option (List Ins)) (n : Int) (e : Ending) (w' : World) : Prop :=
  ((∃ ps v, r = some ps ∧ PValid ps ∧ e = .returned (.tuple #[v, .int .i64 0]) ∧ ArgP w' v ps) ∨ ((∀ ps, r = some ps → ¬ PValid ps) ∧ e = .returned (.tuple #[.slice none 0 0, .int .i64 n]))) ∧ Below w.heap.size w w'
def rdP (rd : List UInt8 → Option Ins) (ls : List (List UInt8)) : Option (List Ins) := if 4000 < ls.length then none else rdAll rd ls
theorem ArgS.strs {w : World} {v : Value} {ls : List (List UInt8)} (h : ArgS w v ls) : (ls = [] ∧ ∃ a cap, v = .slice a 0 cap) ∨ StrsIn w v ls := by
  rcases h with h | ⟨_, b, off, cap, rfl, h⟩
  · exact .inl h
  · exact .inr ⟨b, off, cap, rfl, h.1, h.2⟩

set_option maxHeartbeats 3200000 in
set_option maxRecDepth 100000 in
theorem PDecode_no (s : ByteArray) (w : World) (hs : s.size ≤ 281474976710656) (hv : vld s.data.toList = false) :
    Calls Tryz.prog 20 #[.string s] w fun e w' => e = .returned (.tuple #[.slice none 0 0, .int .i64 1]) ∧ Below w.heap.size w w' := by
  have HI := Lib.hid (Items_no s w hs hv)
  clear hs hv
  go_enter Tryz.func20, Tryz.ntmps20
  go_wp2_with fail
  refine HI.out.mono ?_
  rintro e w1 ⟨rfl, h1⟩
  go_wp2_with fail
  go_ret2
  exact ⟨rfl, h1⟩
set_option maxHeartbeats 3200000 in
set_option maxRecDepth 100000 in
theorem PDecode_yes (s : ByteArray) (w : World) (hv : vld s.data.toList = true) (hE : Env w) :
    Calls Tryz.prog 20 #[.string s] w (PRes w (rdP decM (itemsOf s.data.toList)) 4) := by
  have hmf : ∀ (fn : Fn) (first cap : Array Value) (w : World), (Instr.makeFunc fn first cap).run Tryz.prog w = .ok (.func fn first cap) w := fun _ _ _ _ => rfl
  have HI := Lib.hid (Items_arg s w hv)
  have HV := Lib.hid (items_valid hv)
  have HE := Lib.hid hE
  generalize hits : itemsOf s.data.toList = its at *
  clear hv hE hits
  go_enter Tryz.func20, Tryz.ntmps20
  go_wp2_with fail
  refine HI.out.mono ?_
  rintro e w1 ⟨v, rfl, ha, h1⟩
  have HA := Lib.hid ha
  clear ha
  go_wp2_with fail
  refine (operations_good _).mono ?_
  rintro e w2 ⟨t, rfl, hT, h2⟩
  have hb2 := h1.trans (h2.mono h1.size)
  have HT := Lib.hid hT
  have HA2 := Lib.hid (HA.out.below h2)
  clear hT
  go_wp2_with fail
  refine (readProgram_any 39 t decM its v _ HA2.out.strs (fun s hs x hx => by have := (decM_sound (HV.out s hs) hx).2; omega) (fun _ _ => rfl) (fun W s hs hW => mdecode t s W (HT.out.below hW) (HV.out s hs) ((HE.out.below hb2).below hW))).mono ?_
  intro e w3 h
  have HR : Hid (RPPost w2 (rdP decM its) e w3) := Lib.hid h
  clear h
  cases hr : rdP decM its with
  | none =>
    rw [hr] at HR
    have HRE := Lib.hid hr
    clear hr
    obtain ⟨rfl, h3⟩ := HR.out
    clear HR
    go_wp2_with fail
    go_ret2
    exact ⟨.inr ⟨fun ps h => (by rw [HRE.out] at h; cases h), rfl⟩, hb2.trans (h3.mono hb2.size)⟩
  | some ps =>
    rw [hr] at HR
    have HRE := Lib.hid hr
    clear hr
    obtain ⟨v3, q, rfl, hq, hA, h3⟩ := HR.out
    clear HR
    have HA := Lib.hid hA
    have HQ := Lib.hid hq
    clear hA hq
    cases q with
    | true =>
      go_wp2_with fail
      go_ret2
      exact ⟨.inl ⟨ps, v3, HRE.out, HQ.out.1 trivial, rfl, HA.out⟩, hb2.trans (h3.mono hb2.size)⟩
    | false =>
      go_wp2_with fail
      go_ret2
      exact ⟨.inr ⟨fun qs h hv => by rw [HRE.out] at h; cases h; exact absurd (HQ.out.2 hv) (by simp), rfl⟩, hb2.trans (h3.mono hb2.size)⟩
end Go.Proofs.YtlfoigkpfooopaaGreatDoor

namespace Go.Proofs.YtlfoigkpfooopaaGreatDoor
open Go.RowKit Pl

set_option maxHeartbeats 3200000 in
set_option maxRecDepth 100000 in
theorem PParse_long (s : List UInt8) (w : World) (hs : 4000000 < s.length) (hs2 : s.length ≤ 281474976710656) :
    Calls Tryz.prog 23 #[.string (S s)] w fun e w' => e = .returned (.tuple #[.slice none 0 0, .int .i64 5]) ∧ Below w.heap.size w w' := by
  have h1 : (4000000 : Int) < (s.length : Int) := by omega
  have hz : (S s).size = s.length := S_size s
  go_enter Tryz.func23, Tryz.ntmps23
  go_wp2
  go_ret2
  exact ⟨rfl, Below.refl _ _⟩
set_option maxHeartbeats 3200000 in
set_option maxRecDepth 100000 in
theorem PParse_nil (w : World) :
    Calls Tryz.prog 23 #[.string (S [])] w fun e w' => e = .returned (.tuple #[.slice none 0 0, .int .i64 0]) ∧ Below w.heap.size w w' := by
  go_enter Tryz.func23, Tryz.ntmps23
  go_wp2
  go_ret2
  exact ⟨rfl, Below.refl _ _⟩
set_option maxHeartbeats 3200000 in
set_option maxRecDepth 100000 in
theorem PParse_some (s : List UInt8) (w : World) (h0 : s ≠ []) (hs : s.length ≤ 4000000) (hE : Env w) :
    Calls Tryz.prog 23 #[.string (S s)] w (PRes w (rdP parM (Lib.splitN s [59, 32] 4001)) 5) := by
  have hmf : ∀ (fn : Fn) (first cap : Array Value) (w : World), (Instr.makeFunc fn first cap).run Tryz.prog w = .ok (.func fn first cap) w := fun _ _ _ _ => rfl
  have HS := Lib.hid (fun W hW => SplitN_l s [59, 32] 4001 W hs (by simp) (by omega) (by omega) hW)
  have HL := Lib.hid (fun y hy => Nat.le_trans (split_le s [59, 32] 4001 y hy) hs)
  have HE := Lib.hid hE
  have hz : (S s).size = s.length := S_size s
  have hne : (s == []) = false := by cases s with
    | nil => exact absurd rfl h0
    | cons a l => rfl
  generalize hits : Lib.splitN s [59, 32] 4001 = its at *
  clear hE hits h0
  go_enter Tryz.func23, Tryz.ntmps23
  go_wp2_with fail
  refine (operations_good _).mono ?_
  rintro e w2 ⟨t, rfl, hT, h2⟩
  have HT := Lib.hid hT
  have HE2 := Lib.hid (HE.out.below h2)
  clear hT
  go_wp2_with fail
  refine (HS.out _ HE2.out).mono ?_
  rintro e w3 ⟨v, rfl, hown, h3⟩
  have HA := Lib.hid (arg_own hown)
  have hb3 := h2.trans (h3.mono h2.size)
  clear hown
  go_wp2_with fail
  refine (readProgram_any 46 t parM its v _ HA.out.strs (fun s hs x hx => by have := (parM_sound hx).2; have := HL.out s hs; omega) (fun _ _ => rfl) (fun W s hs hW => mparse t s W ((HT.out.below h3).below hW) (HL.out s hs) ((HE2.out.below h3).below hW))).mono ?_
  intro e w4 h
  have HR : Hid (RPPost w3 (rdP parM its) e w4) := Lib.hid h
  clear h
  cases hr : rdP parM its with
  | none =>
    rw [hr] at HR
    have HRE := Lib.hid hr
    clear hr
    obtain ⟨rfl, h4⟩ := HR.out
    clear HR
    go_wp2_with fail
    go_ret2
    exact ⟨.inr ⟨fun ps h => (by rw [HRE.out] at h; cases h), rfl⟩, hb3.trans (h4.mono hb3.size)⟩
  | some ps =>
    rw [hr] at HR
    have HRE := Lib.hid hr
    clear hr
    obtain ⟨v3, q, rfl, hq, hA, h4⟩ := HR.out
    clear HR
    have HA := Lib.hid hA
    have HQ := Lib.hid hq
    clear hA hq
    cases q with
    | true =>
      go_wp2_with fail
      go_ret2
      exact ⟨.inl ⟨ps, v3, HRE.out, HQ.out.1 trivial, rfl, HA.out⟩, hb3.trans (h4.mono hb3.size)⟩
    | false =>
      go_wp2_with fail
      go_ret2
      exact ⟨.inr ⟨fun qs h hv => by rw [HRE.out] at h; cases h; exact absurd (HQ.out.2 hv) (by simp), rfl⟩, hb3.trans (h4.mono hb3.size)⟩
end Go.Proofs.YtlfoigkpfooopaaGreatDoor
