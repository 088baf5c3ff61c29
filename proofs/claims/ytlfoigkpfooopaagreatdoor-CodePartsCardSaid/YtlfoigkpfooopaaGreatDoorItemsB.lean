/- The contract of Items (package tree). By an AI agent. -/
import Derived.Test.YtlfoigkpfooopaaGreatDoorItems
import Derived.Laws.EntriesVeiled
namespace Go.Proofs.YtlfoigkpfooopaaGreatDoor
open Go.RowKit Pl

set_option maxHeartbeats 400000 in
set_option maxRecDepth 100000 in
theorem Items_no (s : ByteArray) (w : World) (hs : s.size ≤ 281474976710656) (hv : vld s.data.toList = false) :
    Calls Tryz.prog 25 #[.string s] w fun e w' => e = .returned (.tuple #[.slice none 0 0, .int .i64 1]) ∧ Below w.heap.size w w' := by
  have HV := Lib.hid hv; clear hv
  go_enter Tryz.func25, Tryz.ntmps25
  go_wp2_with (go_at_call 48; refine (Valid_is false s _ hs HV.out).mono ?_; rintro e w1 ⟨rfl, hb⟩)
  go_ret2
  exact ⟨rfl, hb⟩

theorem collect_all (B : Nat) (l : List UInt8) (w : World) (hv : vld l = true) (hc : CSt B w []) :
    Calls Tryz.prog 49 #[.string (S l), .int .i64 ((l.length : Int) / 2), .pointer (some ⟨B, 0, none⟩), .pointer (some ⟨B + 1, 0, none⟩)] w fun e w' => (∃ r, e = .returned (.string r)) ∧ CSt B w' (itemsOf l) ∧ Below B w w' := by
  rw [show (l.length : Int) / 2 = ((l.length / 2 : Nat) : Int) from by omega]
  have hl := (vld_iff.1 hv).1
  by_cases h0 : l = [48]
  · subst h0
    exact (collect_end B _ [] w hc).mono fun e w' ⟨g1, g2, g3⟩ => ⟨⟨_, g1⟩, g2, g3⟩
  · have hp := len_pair hv h0
    exact (collect_any B (l.length / 2) (l.length / 2) l [] w (Nat.le_refl _) (by omega) hv (by simp; omega) hc).mono fun e w' ⟨g1, g2, g3⟩ => ⟨⟨_, g1⟩, g2, g3⟩
set_option maxHeartbeats 1600000 in
set_option maxRecDepth 100000 in
theorem Items_yes (s : ByteArray) (w : World) (hv : vld s.data.toList = true) :
    Calls Tryz.prog 25 #[.string s] w fun e w' => ∃ v base, e = .returned (.tuple #[v, .int .i64 0]) ∧ w'.ownsRow base 9 1 v (itemsOf s.data.toList).length (strsV (itemsOf s.data.toList)) ∧ Below w.heap.size w w' := by
  have hmf : ∀ (fn : Fn) (first cap : Array Value) (w : World), (Instr.makeFunc fn first cap).run Tryz.prog w = .ok (.func fn first cap) w := fun _ _ _ _ => rfl
  have hs := vld_size hv
  have hcol := fun (B : Nat) (W : World) (h : CSt B W []) => collect_all B s.data.toList W hv h
  rw [← S_eq s, len_eq] at hcol
  have HC := Lib.hid hcol; have HV := Lib.hid hv; clear hcol hv
  go_enter Tryz.func25, Tryz.ntmps25
  go_wp2_with fail
  refine (Valid_is true s _ (by omega) HV.out).mono ?_
  rintro e w1 ⟨rfl, hb1⟩
  go_wp2_with fail
  refine (HC.out w1.heap.size _ ?st).mono ?_
  case st =>
    refine ⟨.slice none 0 0, ?_, ?_, World.ownsRow_nil _ _ _ _, ?_, by simp⟩
    · rw [World.cell?_alloc_past _ _ _ (by simp), World.cell?_alloc_at _ _ _ _ rfl]; rfl
    · rw [World.frozen?_of_block (w := w1.alloc (.cells #[.slice none 0 0] 40)) (Below.heap_alloc _ _ _ (by simp))]
      exact World.frozen?_alloc_at _ _ _ _ rfl
    · rw [World.cell?_alloc_at _ _ _ _ (by simp)]; rfl
  rintro e w2 ⟨⟨r, rfl⟩, hcst, hb2⟩
  obtain ⟨v, c1, c2, c3, c4, c5⟩ := hcst
  have hb3 : Below w1.heap.size w1 w2 := (((Below.refl _ w1).alloc (Nat.le_refl _) _).alloc (by simp) _).trans hb2
  have H3 := Lib.hid c3
  clear c2 c3 c4 hb2
  go_wp2_with fail
  go_ret2
  exact ⟨v, _, rfl, H3.out, bstep hb1 hb3⟩
end Go.Proofs.YtlfoigkpfooopaaGreatDoor
