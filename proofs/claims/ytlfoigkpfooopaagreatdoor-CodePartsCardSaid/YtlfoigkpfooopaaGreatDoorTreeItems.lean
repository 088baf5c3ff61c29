/- The walk of TreeItems. By an AI agent. -/
import Derived.Test.YtlfoigkpfooopaaGreatDoorItemsB
namespace Go.Proofs.YtlfoigkpfooopaaGreatDoor
open Go.RowKit Pl

/-- a value that reads as a list of strings -/
def ArgS (w : World) (v : Value) (ls : List (List UInt8)) : Prop :=
  (ls = [] ∧ ∃ a cap, v = .slice a 0 cap) ∨ (0 < ls.length ∧ ∃ b off cap, v = .slice (some ⟨b, off, none⟩) ls.length cap ∧ StrAt w b off ls)
theorem ArgS.below {w w1 : World} {v : Value} {ls : List (List UInt8)} (h : ArgS w v ls) (hb : Below w.heap.size w w1) : ArgS w1 v ls := by
  rcases h with h | ⟨h0, b, off, cap, h1, h2⟩
  · exact Or.inl h
  · exact Or.inr ⟨h0, b, off, cap, h1, h2.below hb⟩
theorem arg_own {w : World} {base n : Nat} {e : TypeId} {v : Value} {ls : List (List UInt8)} (h : w.ownsRow base e 1 v n (strsV ls)) : ArgS w v ls := by
  have hn : n = ls.length := by have := h.1; rw [strsV_len, Nat.mul_one] at this; exact this.symm
  rcases Nat.eq_zero_or_pos n with h0 | h0
  · have hl : ls = [] := List.length_eq_zero_iff.1 (by omega)
    rw [h0] at h
    exact Or.inl ⟨hl, own_empty h⟩
  · obtain ⟨g, cap, h1, _, _, h3⟩ := own_strs h h0
    exact Or.inr ⟨by omega, g, 0, cap, h1, h3⟩
/-- what List returns: the tree, or one of two errors -/
def LRes (ls : List (List UInt8)) (e : Ending) : Prop :=
  (AllV ls ∧ (enc ls).length ≤ 2000000 ∧ e = .returned (.tuple #[.string (S (enc ls)), .int .i64 0])) ∨ e = .returned (.tuple #[.string (S []), .int .i64 1]) ∨ e = .returned (.tuple #[.string (S []), .int .i64 3])
theorem List_arg (w : World) (v : Value) (ls : List (List UInt8)) (h : ArgS w v ls) (hm : ls.length ≤ 281474976710656) (hz : ∀ l ∈ ls, l.length ≤ 281474976710656) :
    Calls Tryz.prog 30 #[v] w fun e w' => LRes ls e ∧ Below w.heap.size w w' := by
  rcases h with ⟨rfl, a, cap, rfl⟩ | ⟨_, b, off, cap, rfl, hc⟩
  · exact (List_none w a cap).mono fun e w' ⟨h1, h2⟩ => ⟨Or.inl ⟨by intro l hl; simp at hl, by decide, h1⟩, h2⟩
  · by_cases hn : AllV ls
    · rcases Nat.lt_or_ge 2000000 (enc ls).length with h | h
      · exact (List_size w b off cap ls hc hm hn h).mono fun e w' ⟨h1, h2⟩ => ⟨Or.inr (Or.inr h1), h2⟩
      · exact (List_yes w b off cap ls hc hm hn h).mono fun e w' ⟨h1, h2⟩ => ⟨Or.inl ⟨hn, h, h1⟩, h2⟩
    · exact (List_form w b off cap ls hc hm hz hn).mono fun e w' ⟨h1, h2⟩ => ⟨Or.inr (Or.inl h1), h2⟩
theorem List_ok (w : World) (v : Value) (ls : List (List UInt8)) (h : ArgS w v ls) (hn : AllV ls) (hz : (enc ls).length ≤ 2000000) (hm : ls.length ≤ 281474976710656) :
    Calls Tryz.prog 30 #[v] w fun e w' => e = .returned (.tuple #[.string (S (enc ls)), .int .i64 0]) ∧ Below w.heap.size w w' := by
  rcases h with ⟨rfl, a, cap, rfl⟩ | ⟨_, b, off, cap, rfl, hc⟩
  · exact List_none w a cap
  · exact List_yes w b off cap ls hc hm hn hz
theorem Same_arg (w : World) (v v2 : Value) (ls : List (List UInt8)) (h : ArgS w v ls) (h2 : ArgS w v2 ls) (hm : ls.length ≤ 281474976710656) :
    Calls Tryz.prog 26 #[v, v2] w fun e w' => e = .returned (.bool true) ∧ Below w.heap.size w w' := by
  rcases h with ⟨rfl, a, cap, rfl⟩ | ⟨hp, b, off, cap, rfl, hc⟩
  · rcases h2 with ⟨_, a2, cap2, rfl⟩ | ⟨hp, _⟩
    · exact (Same_none a a2 cap cap2 w).mono fun _ _ ⟨h1, h2⟩ => ⟨h1, h2 ▸ Below.refl _ _⟩
    · simp at hp
  · rcases h2 with ⟨rfl, _⟩ | ⟨_, b2, off2, cap2, rfl, hc2⟩
    · simp at hp
    · exact Same_yes w b off cap b2 off2 cap2 ls hc hc2 hm
theorem Items_arg (s : ByteArray) (w : World) (hv : vld s.data.toList = true) :
    Calls Tryz.prog 25 #[.string s] w fun e w' => ∃ v, e = .returned (.tuple #[v, .int .i64 0]) ∧ ArgS w' v (itemsOf s.data.toList) ∧ Below w.heap.size w w' :=
  (Items_yes s w hv).mono fun _ _ ⟨v, _, h1, h2, h3⟩ => ⟨v, h1, arg_own h2, h3⟩
theorem items_few {l : List UInt8} (h : vld l = true) : (itemsOf l).length ≤ 2000000 := by
  have h1 := items_len (l.length / 2) (l := l)
  have h2 := (vld_iff.1 h).1
  unfold itemsOf; omega
theorem news_alloc {w : World} {ad : Addr} {ls : List (List UInt8)} (h : ∀ j u, (strsV ls)[j]? = some u → w.cell? (ad.add j) = some u) (o : Obj) : ∀ j u, (strsV ls)[j]? = some u → (w.alloc o).cell? (ad.add j) = some u := fun j u hu => by
  have h1 := h j u hu
  rw [World.cell?_of_block (w := w) (Below.heap_alloc w o _ (cell_lt h1))]; exact h1
theorem neq_self {l : List UInt8} {s : ByteArray} (h : s.data.toList = l) : (l == s.toList) = true := by rw [ByteArray.toList_eq, h]; simp

end Go.Proofs.YtlfoigkpfooopaaGreatDoor
