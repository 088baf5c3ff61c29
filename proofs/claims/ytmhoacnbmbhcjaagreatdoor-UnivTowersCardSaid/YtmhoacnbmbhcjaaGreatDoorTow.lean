/- Package univ: Tower. By an AI agent. -/
import Derived.Test.YtmhoacnbmbhcjaaGreatDoorUAwk
import Derived.Test.YtmhoacnbmbhcjaaGreatDoorRecog
import Derived.Test.YtmhoacnbmbhcjaaGreatDoorBld4
import Derived.Test.YtmhoacnbmbhcjaaGreatDoorLsts
import Derived.Test.YtmhoacnbmbhcjaaGreatDoorCod
import Derived.Shelf.Strings.Builder1
namespace Go.Proofs
open Go.Shelf
def Tryz.lays167_ren : Go.Shelf.Ren := ⟨fun | 167 => 111 | 240 => 159 | 276 => 207 | n => n, fun | 70 => 129 | 3 => 3 | 0 => 0 | 4 => 4 | 9 => 9 | 20 => 20 | 72 => 131 | 37 => 105 | 75 => 134 | 80 => 138 | 164 => 210 | 5 => 5 | n => n, fun | n => n⟩
theorem Tryz.lays167 : Go.Proofs.Lays.n167 Tryz.prog Tryz.lays167_ren := {
  mixed := by kernel_rfl
  f167 := Tryz.func111.trans (congrArg some (by kernel_rfl))
  f240 := Tryz.func159.trans (congrArg some (by kernel_rfl))
  f276 := Tryz.func207.trans (congrArg some (by kernel_rfl))
  t0 := Tryz.underlying0
  a0 := Tryz.isAgg0
  z0 := Tryz.sizeOf0
  v0 := Tryz.zeroValue0
  t4 := Tryz.underlying4
  a4 := Tryz.isAgg4
  z4 := Tryz.sizeOf4
  v4 := Tryz.zeroValue4
  t5 := Tryz.underlying5
  a5 := Tryz.isAgg5
  z5 := Tryz.sizeOf5
  v5 := Tryz.zeroValue5
  t9 := Tryz.underlying9
  a9 := Tryz.isAgg9
  z9 := Tryz.sizeOf9
  v9 := Tryz.zeroValue9
  t20 := Tryz.underlying20
  a20 := Tryz.isAgg20
  z20 := Tryz.sizeOf20
  v20 := Tryz.zeroValue20
  t37 := Tryz.underlying105
  a37 := Tryz.isAgg105
  z37 := Tryz.sizeOf105
  v37 := Tryz.zeroValue105
  t70 := Tryz.underlying129
  a70 := Tryz.isAgg129
  z70 := Tryz.sizeOf129
  v70 := Tryz.zeroValue129
  t72 := Tryz.underlying131
  a72 := Tryz.isAgg131
  z72 := Tryz.sizeOf131
  v72 := Tryz.zeroValue131
  t75 := Tryz.underlying134
  a75 := Tryz.isAgg134
  z75 := Tryz.sizeOf134
  v75 := Tryz.zeroValue134
  t164 := Tryz.underlying210
  a164 := Tryz.isAgg210
  z164 := Tryz.sizeOf210
  v164 := Tryz.zeroValue210 }
theorem Tryz.Builder_Extra_167 : Builder.Extra Tryz.prog Tryz.lays167_ren := {
  sizeBuilder := by kernel_rfl
  liesBuilder := by kernel_rfl
  t5 := Tryz.underlying5
  a5 := Tryz.isAgg5
  z5 := Tryz.sizeOf5
  v5 := Tryz.zeroValue5
  infoByte := by kernel_rfl
  cellsByte := by kernel_rfl
  sizeByte := by kernel_rfl
  neB5 := by decide }
end Go.Proofs
namespace Go.Proofs.YtmhoacnbmbhcjaaGreatDoor
open Go.RowKit Pl

theorem WB (B b : Nat) (l : List UInt8) (c : UInt8) (w : World) (h : Lib.IsBuilder 131 5 B b (Lib.byteCells l) w) (hlen : l.length + 1 ≤ 140737488355328) (hBw : B ≤ w.heap.size) :
    Calls Tryz.prog 111 #[.pointer (some ⟨b, 0, none⟩), .int .u8 (c.toNat : Int)] w fun e w' => e = .returned .nilIface ∧ Lib.IsBuilder 131 5 B b (Lib.byteCells (l ++ [c])) w' ∧ Below B w w' := by
  refine (Any.Builder_WriteByte Tryz.lays167 Tryz.Builder_Extra_167 B b _ (c.toNat : Int) w h (by rw [Lib.byteCells_length]; exact hlen) hBw).mono fun e w' ⟨h1, h2, h3⟩ => ⟨h1, ?_, h3⟩
  rw [Lib.byteCells_append]
  exact Or.inr h2
/-- what the programs are, in front of the data -/
def towB (pss : List (List Ins)) : List UInt8 := (pss.map fun p => 49 :: enc (codes p)).flatten
theorem towB_take {pss : List (List Ins)} {k : Nat} {p : List Ins} (h : pss[k]? = some p) : towB (pss.take (k + 1)) = towB (pss.take k) ++ [49] ++ enc (codes p) := by
  rw [List.take_add_one, h]
  simp [towB]
theorem towB_le (pss : List (List Ins)) (k : Nat) : (towB (pss.take k)).length ≤ (towB pss).length := by
  have h : towB pss = towB (pss.take k) ++ towB (pss.drop k) := by
    unfold towB
    rw [← List.flatten_append, ← List.map_append, List.take_append_drop]
  rw [h, List.length_append]; omega
/-- the tree of the programs in front of the data -/
noncomputable def towR : List (List Ins) → Tr → Tr
  | [], y => y
  | p :: pss, y => .pair (lst (codeL p)) (towR pss y)
theorem tx_towR : ∀ {pss : List (List Ins)} {y : Tr}, (∀ p ∈ pss, PValid p) → tx (towR pss y) = towB pss ++ tx y
  | [], y, _ => by simp [towR, towB]
  | p :: pss, y, h => by
    have h1 : tx (towR (p :: pss) y) = 49 :: (tx (lst (codeL p)) ++ tx (towR pss y)) := rfl
    rw [h1, tx_code (h p List.mem_cons_self).2.2, tx_towR (fun q hq => h q (List.mem_cons_of_mem _ hq))]
    simp [towB]
theorem towR_drop {pss : List (List Ins)} {y : Tr} {k : Nat} {p : List Ins} (h : pss[k]? = some p) : towR (pss.drop k) y = .pair (lst (codeL p)) (towR (pss.drop (k + 1)) y) := by
  obtain ⟨hk, rfl⟩ := List.getElem?_eq_some_iff.1 h
  rw [List.drop_eq_getElem_cons hk]; rfl
theorem towR_le (pss : List (List Ins)) (y : Tr) (k : Nat) (hv : ∀ p ∈ pss, PValid p) : (tx (towR (pss.drop k) y)).length ≤ (tx (towR pss y)).length := by
  rw [tx_towR hv, tx_towR (fun p hp => hv p (List.mem_of_mem_drop hp)), List.length_append, List.length_append]
  have h : towB pss = towB (pss.take k) ++ towB (pss.drop k) := by
    unfold towB
    rw [← List.flatten_append, ← List.map_append, List.take_append_drop]
  rw [h, List.length_append]; omega
/-- a list of programs at an address, or none -/
def LsA (w : World) (a : Option Addr) (pss : List (List Ins)) : Prop := pss = [] ∨ ∃ b off, a = some ⟨b, off, none⟩ ∧ PiecesAt w b off pss
theorem LsA.below {w w' : World} {a : Option Addr} {pss : List (List Ins)} (h : LsA w a pss) (hb : Below w.heap.size w w') : LsA w' a pss := h.imp id fun ⟨b, off, h1, h2⟩ => ⟨b, off, h1, h2.below hb⟩
theorem LsA.at {w : World} {a : Option Addr} {pss : List (List Ins)} (h : LsA w a pss) {k : Nat} (hk : k < pss.length) : ∃ b off, a = some ⟨b, off, none⟩ ∧ ∃ p u, pss[k]? = some p ∧ w.cell? ⟨b, off + k, none⟩ = some u ∧ ArgP w u p := by
  rcases h with rfl | ⟨b, off, h1, h2⟩
  · exact absurd hk (Nat.not_lt_zero _)
  · obtain ⟨p, hp⟩ := piece_at hk
    obtain ⟨u, h3, h4⟩ := h2.piece k p hp
    exact ⟨b, off, h1, p, u, hp, h3, h4⟩
/-- the sizes of programs -/
def SzL (pss : List (List Ins)) : Prop := ∀ p ∈ pss, p.length * 48 ≤ 140737488355328 ∧ ∀ x ∈ p, x.tree.length ≤ 281474976710656
set_option maxHeartbeats 1600000 in
set_option maxRecDepth 100000 in
theorem allValid_any (w : World) (a : Option Addr) (cap : Nat) (pss : List (List Ins)) (hc : LsA w a pss) (hm : pss.length ≤ 6000000000000) (hs : SzL pss) (r : Bool) (hr : r = true ↔ ∀ p ∈ pss, PValid p) :
    Calls Tryz.prog 109 #[.slice a pss.length cap] w fun e w' => e = .returned (.bool r) ∧ Below w.heap.size w w' := by
  generalize hnn : pss.length = n at *
  have HN := Lib.hid hnn; have HC := Lib.hid hc; have HS := Lib.hid hs; have HR := Lib.hid hr
  clear hnn hc hs hr
  go_enter Tryz.func109, Tryz.ntmps109
  go_wp2
  go_loopw [7] (fun i wr => ∃ k : Nat, k ≤ n ∧ i = .int .i64 k ∧ Hid (∀ j p, j < k → pss[j]? = some p → PValid p) ∧ Hid (Below w.heap.size w wr)) (fun i _ => n - (intOf i).toNat)
  case atStart => exact ⟨0, Nat.zero_le _, rfl, Lib.hid (by simp), Lib.hid (Below.refl _ _)⟩
  case round =>
    obtain ⟨k, hk, rfl, HV, HB⟩ := hrel
    by_cases hlt : k < n
    · have hk1 : (k : Int) < (n : Int) := by omega
      obtain ⟨b, off, rfl, p, u, hp, hcell, hA⟩ := (HC.out.below HB.out).at (k := k) (by rw [HN.out]; exact hlt)
      obtain ⟨q, hq⟩ := pv_bool p
      have hsp := HS.out p (List.mem_of_getElem? hp)
      have HPV := Lib.hid (CV_arg wr u p q hA (by omega) hsp.2 hq)
      have HP := Lib.hid hp; have HQ := Lib.hid hq
      obtain ⟨pa, pcap, rfl⟩ := hA.form
      clear hp hA hsp hq
      generalize p.length = np at *
      go_wp2_with fail
      refine HPV.out.mono ?_
      rintro e w4 ⟨rfl, h4⟩
      have HB4 := Lib.hid (bstep HB.out h4)
      clear h4
      cases q with
      | true =>
        have HV2 : Hid (∀ j p, j < k + 1 → pss[j]? = some p → PValid p) := Lib.hid (fun j p' hj hp' => by
          by_cases h : j = k
          · subst h
            have h3 := HP.out
            rw [hp'] at h3
            cases h3; exact HQ.out.1 rfl
          · exact HV.out j p' (by omega) hp')
        go_wp2_with fail
        go_roundw
        case rel => exact ⟨k + 1, by omega, by go_num, HV2, HB4⟩
        case measure => simp [intOf]; omega
      | false =>
        have hr0 : r = false := by
          cases r with
          | false => rfl
          | true => have := HQ.out.2 (HR.out.1 rfl p (List.mem_of_getElem? HP.out)); cases this
        subst hr0
        go_wp2_with fail
        go_ret
        exact ⟨rfl, HB4.out⟩
    · obtain rfl : k = n := by omega
      have hr1 : r = true := HR.out.2 fun p hp => by
        obtain ⟨j, hj⟩ := List.mem_iff_getElem?.1 hp
        exact HV.out j p (by have := (List.getElem?_eq_some_iff.1 hj).1; have := HN.out; omega) hj
      subst hr1
      go_wp2_with fail
      go_ret
      exact ⟨rfl, HB.out⟩
end Go.Proofs.YtmhoacnbmbhcjaaGreatDoor
