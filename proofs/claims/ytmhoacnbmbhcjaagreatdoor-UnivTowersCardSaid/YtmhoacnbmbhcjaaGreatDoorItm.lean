/- The contract of Items (package tree). By an AI agent. -/
import Derived.Test.YtmhoacnbmbhcjaaGreatDoorCod
import Derived.Laws.EntriesVeiled
namespace Go.Proofs.YtmhoacnbmbhcjaaGreatDoor
open Go.RowKit Pl

set_option maxHeartbeats 400000 in
set_option maxRecDepth 100000 in
theorem Items_no (s : ByteArray) (w : World) (hs : s.size ≤ 281474976710656) (hv : vld s.data.toList = false) :
    Calls Tryz.prog 98 #[.string s] w fun e w' => e = .returned (.tuple #[.slice none 0 0, .int .i64 1]) ∧ Below w.heap.size w w' := by
  have HV := Lib.hid hv; clear hv
  go_enter Tryz.func98, Tryz.ntmps98
  go_wp2_with (go_at_call 96; refine (Valid_is false s _ hs HV.out).mono ?_; rintro e w1 ⟨rfl, hb⟩)
  go_ret2
  exact ⟨rfl, hb⟩

theorem collect_all (B : Nat) (l : List UInt8) (w : World) (hv : vld l = true) (hc : CSt B w []) :
    Calls Tryz.prog 153 #[.string (S l), .int .i64 ((l.length : Int) / 2), .pointer (some ⟨B, 0, none⟩), .pointer (some ⟨B + 1, 0, none⟩)] w fun e w' => (∃ r, e = .returned (.string r)) ∧ CSt B w' (itemsOf l) ∧ Below B w w' := by
  rw [show (l.length : Int) / 2 = ((l.length / 2 : Nat) : Int) from by omega]
  have hl := (vld_iff.1 hv).1
  by_cases h0 : l = [48]
  · subst h0
    exact (collect_end B _ [] w hc).mono fun e w' ⟨g1, g2, g3⟩ => ⟨⟨_, g1⟩, g2, g3⟩
  · have hp := len_pair hv h0
    exact (collect_any B (l.length / 2) (l.length / 2) l [] w (Nat.le_refl _) (by omega) hv (by simp; omega) hc).mono fun e w' ⟨g1, g2, g3⟩ => ⟨⟨_, g1⟩, g2, g3⟩
set_option maxHeartbeats 1600000 in
set_option maxRecDepth 100000 in
theorem Items_yes (s : ByteArray) (w : World) (hv : vld s.data.toList = true) :
    Calls Tryz.prog 98 #[.string s] w fun e w' => ∃ v base, e = .returned (.tuple #[v, .int .i64 0]) ∧ w'.ownsRow base 9 1 v (itemsOf s.data.toList).length (strsV (itemsOf s.data.toList)) ∧ Below w.heap.size w w' := by
  have hmf : ∀ (fn : Fn) (first cap : Array Value) (w : World), (Instr.makeFunc fn first cap).run Tryz.prog w = .ok (.func fn first cap) w := fun _ _ _ _ => rfl
  have hs := vld_size hv
  have hcol := fun (B : Nat) (W : World) (h : CSt B W []) => collect_all B s.data.toList W hv h
  rw [← S_eq s, len_eq] at hcol
  have HC := Lib.hid hcol; have HV := Lib.hid hv; clear hcol hv
  go_enter Tryz.func98, Tryz.ntmps98
  go_wp2_with fail
  refine (Valid_is true s _ (by omega) HV.out).mono ?_
  rintro e w1 ⟨rfl, hb1⟩
  go_wp2_with fail
  refine (HC.out w1.heap.size _ ?st).mono ?_
  case st =>
    refine ⟨.slice none 0 0, ?_, ?_, World.ownsRow_nil _ _ _ _, ?_, by simp⟩
    · rw [World.cell?_alloc_past _ _ _ (by simp), World.cell?_alloc_at _ _ _ _ rfl]; rfl
    · rw [World.frozen?_of_block (w := w1.alloc (.cells #[.slice none 0 0] 100)) (Below.heap_alloc _ _ _ (by simp))]
      exact World.frozen?_alloc_at _ _ _ _ rfl
    · rw [World.cell?_alloc_at _ _ _ _ (by simp)]; rfl
  rintro e w2 ⟨⟨r, rfl⟩, hcst, hb2⟩
  obtain ⟨v, c1, c2, c3, c4, c5⟩ := hcst
  have hb3 : Below w1.heap.size w1 w2 := (((Below.refl _ w1).alloc (Nat.le_refl _) _).alloc (by simp) _).trans hb2
  have H3 := Lib.hid c3
  clear c2 c3 c4 hb2
  go_wp2_with fail
  go_ret2
  exact ⟨v, _, rfl, H3.out, bstep hb1 hb3⟩
end Go.Proofs.YtmhoacnbmbhcjaaGreatDoor

namespace Go.Proofs.YtmhoacnbmbhcjaaGreatDoor
open Go.RowKit Pl

/-- a value that reads as a list of strings -/
def ArgS (w : World) (v : Value) (ls : List (List UInt8)) : Prop :=
  (ls = [] ∧ ∃ a cap, v = .slice a 0 cap) ∨ (0 < ls.length ∧ ∃ b off cap, v = .slice (some ⟨b, off, none⟩) ls.length cap ∧ StrAt w b off ls)
theorem ArgS.below {w w1 : World} {v : Value} {ls : List (List UInt8)} (h : ArgS w v ls) (hb : Below w.heap.size w w1) : ArgS w1 v ls := by
  rcases h with h | ⟨h0, b, off, cap, h1, h2⟩
  · exact Or.inl h
  · exact Or.inr ⟨h0, b, off, cap, h1, h2.below hb⟩
theorem arg_own {w : World} {base n : Nat} {e : TypeId} {v : Value} {ls : List (List UInt8)} (h : w.ownsRow base e 1 v n (strsV ls)) : ArgS w v ls := by
  have hn : n = ls.length := by have := h.1; rw [strsV_len, Nat.mul_one] at this; exact this.symm
  rcases Nat.eq_zero_or_pos n with h0 | h0
  · have hl : ls = [] := List.length_eq_zero_iff.1 (by omega)
    rw [h0] at h
    exact Or.inl ⟨hl, own_empty h⟩
  · obtain ⟨g, cap, h1, _, _, h3⟩ := own_strs h h0
    exact Or.inr ⟨by omega, g, 0, cap, h1, h3⟩
/-- what List returns: the tree, or one of two errors -/
def LRes (ls : List (List UInt8)) (e : Ending) : Prop :=
  (AllV ls ∧ (enc ls).length ≤ 2000000 ∧ e = .returned (.tuple #[.string (S (enc ls)), .int .i64 0])) ∨ e = .returned (.tuple #[.string (S []), .int .i64 1]) ∨ e = .returned (.tuple #[.string (S []), .int .i64 3])
theorem List_arg (w : World) (v : Value) (ls : List (List UInt8)) (h : ArgS w v ls) (hm : ls.length ≤ 281474976710656) (hz : ∀ l ∈ ls, l.length ≤ 281474976710656) :
    Calls Tryz.prog 95 #[v] w fun e w' => LRes ls e ∧ Below w.heap.size w w' := by
  rcases h with ⟨rfl, a, cap, rfl⟩ | ⟨_, b, off, cap, rfl, hc⟩
  · exact (List_none w a cap).mono fun e w' ⟨h1, h2⟩ => ⟨Or.inl ⟨by intro l hl; simp at hl, by decide, h1⟩, h2⟩
  · by_cases hn : AllV ls
    · rcases Nat.lt_or_ge 2000000 (enc ls).length with h | h
      · exact (List_size w b off cap ls hc hm hn h).mono fun e w' ⟨h1, h2⟩ => ⟨Or.inr (Or.inr h1), h2⟩
      · exact (List_yes w b off cap ls hc hm hn h).mono fun e w' ⟨h1, h2⟩ => ⟨Or.inl ⟨hn, h, h1⟩, h2⟩
    · exact (List_form w b off cap ls hc hm hz hn).mono fun e w' ⟨h1, h2⟩ => ⟨Or.inr (Or.inl h1), h2⟩
theorem List_ok (w : World) (v : Value) (ls : List (List UInt8)) (h : ArgS w v ls) (hn : AllV ls) (hz : (enc ls).length ≤ 2000000) (hm : ls.length ≤ 281474976710656) :
    Calls Tryz.prog 95 #[v] w fun e w' => e = .returned (.tuple #[.string (S (enc ls)), .int .i64 0]) ∧ Below w.heap.size w w' := by
  rcases h with ⟨rfl, a, cap, rfl⟩ | ⟨_, b, off, cap, rfl, hc⟩
  · exact List_none w a cap
  · exact List_yes w b off cap ls hc hm hn hz
theorem Items_arg (s : ByteArray) (w : World) (hv : vld s.data.toList = true) :
    Calls Tryz.prog 98 #[.string s] w fun e w' => ∃ v, e = .returned (.tuple #[v, .int .i64 0]) ∧ ArgS w' v (itemsOf s.data.toList) ∧ Below w.heap.size w w' :=
  (Items_yes s w hv).mono fun _ _ ⟨v, _, h1, h2, h3⟩ => ⟨v, h1, arg_own h2, h3⟩
theorem items_few {l : List UInt8} (h : vld l = true) : (itemsOf l).length ≤ 2000000 := by
  have h1 := items_len (l.length / 2) (l := l)
  have h2 := (vld_iff.1 h).1
  unfold itemsOf; omega
theorem news_alloc {w : World} {ad : Addr} {ls : List (List UInt8)} (h : ∀ j u, (strsV ls)[j]? = some u → w.cell? (ad.add j) = some u) (o : Obj) : ∀ j u, (strsV ls)[j]? = some u → (w.alloc o).cell? (ad.add j) = some u := fun j u hu => by
  have h1 := h j u hu
  rw [World.cell?_of_block (w := w) (Below.heap_alloc w o _ (cell_lt h1))]; exact h1
theorem neq_self {l : List UInt8} {s : ByteArray} (h : s.data.toList = l) : (l == s.toList) = true := by rw [ByteArray.toList_eq, h]; simp

end Go.Proofs.YtmhoacnbmbhcjaaGreatDoor
