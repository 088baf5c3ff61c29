/- The contracts of Clone, Head, Tail, Pairs, Value, Cons (package tree) and Head, Tail, Pairs, Value (the reference). By an AI agent. -/
import Derived.Test.YtpiahjbpidcjpaaParts
import Derived.Test.YtpiahjbpidcjpaaShelf
import Derived.Shelf.Vars
namespace Go.Proofs.Ytpiahjbpidcjpaa
open Go.RowKit Pl

theorem bstep {w w1 w2 : World} (h1 : Below w.heap.size w w1) (h2 : Below w1.heap.size w1 w2) : Below w.heap.size w w2 := h1.trans (h2.mono h1.size)
theorem vld_size {s : ByteArray} (h : vld s.data.toList = true) : s.size ≤ 2000000 := by have := (vld_iff.1 h).1; rwa [len_eq] at this
theorem Valid_is (b : Bool) (s : ByteArray) (w : World) (hs : s.size ≤ 281474976710656) (h : vld s.data.toList = b) :
    Calls Try.prog 65 #[.string s] w fun e w' => e = .returned (.bool b) ∧ Below w.heap.size w w' := by
  rw [← h]; exact Valid_any s w hs

set_option maxHeartbeats 400000 in
set_option maxRecDepth 100000 in
theorem Clone_any (s : ByteArray) (w : World) (hs : s.size ≤ 281474976710656) :
    Calls Try.prog 67 #[.string s] w fun e w' => e = .returned (.string s) ∧ Below w.heap.size w w' := by
  go_enter Try.func67, Try.ntmps67
  go_wp2_with (go_at_call 111; refine (Try.stringslite_Clone s _ (by omega)).mono ?_; rintro e w1 ⟨rfl, hb⟩)
  go_ret
  exact ⟨rfl, hb⟩

theorem S_size (l : List UInt8) : (S l).size = l.length := by simp [ByteArray.size]
theorem hd_le {l : List UInt8} (h : vld l = true) : (hd l).length ≤ 2000000 ∧ (tl l).length ≤ 2000000 := ⟨(vld_iff.1 (vld_hd h).1).1, (vld_iff.1 (vld_hd h).2).1⟩

theorem contains_cons (b : UInt8) (l sub : List UInt8) : Lib.contains (b :: l) sub = (sub.isPrefixOf (b :: l) || Lib.contains l sub) := by
  have hg := Lib.index_ge l sub
  unfold Lib.contains
  rw [Lib.index]
  cases hp : sub.isPrefixOf (b :: l) with
  | true => simp
  | false =>
    simp only [Bool.false_or]
    by_cases h : Lib.index l sub = -1
    · rw [h]; decide
    · rw [if_neg (by simp), if_neg (by simpa using h), decide_eq_decide]; omega
theorem ends_47 (n : Nat) : ∀ {l : List UInt8}, l.length ≤ n → fs l 1 = some l.length → Lib.contains l [49, 49] = !(alt l) := by
  induction n with
  | zero => intro l h1 h2; cases l with
    | nil => simp [fs] at h2
    | cons => simp at h1
  | succ n ih =>
    intro l h1 h2
    match l, h1, h2 with
    | [], _, h2 => simp [fs] at h2
    | [c], _, h2 => rw [contains_cons]; simp [alt, Lib.contains, Lib.index, List.isPrefixOf]
    | c :: d :: r, h1, h2 =>
      by_cases c0 : c = 48
      · subst c0; rw [fs_48, fs_zero] at h2; simp at h2
      · by_cases c1 : c = 49
        · subst c1
          by_cases d0 : d = 48
          · subst d0
            rw [fs_49, fs_48] at h2
            have h3 : fs r 1 = some r.length := by
              obtain ⟨x, hx, hx2⟩ := Option.map_eq_some_iff.1 h2
              obtain ⟨y, hy, hy2⟩ := Option.map_eq_some_iff.1 hx
              simp only [List.length_cons] at hx2
              rw [hy]; congr 1; omega
            rw [contains_cons, contains_cons, ih (by simp only [List.length_cons] at h1; omega) h3]
            simp [alt, List.isPrefixOf]
          · by_cases d1 : d = 49
            · subst d1; rw [contains_cons]; simp [alt, List.isPrefixOf]
            · rw [fs_49, fs_bad _ _ _ d0 d1] at h2; simp at h2
        · rw [fs_bad _ _ _ c0 c1] at h2; simp at h2

theorem maxLen_cell {w : World} (h : w.ShapedOpen Try.prog) : ∃ m, w.cell? ⟨0, 0, none⟩ = some (.int .i64 m) :=
  cell_of_shapedOpen_int (zero := #[.int .i64 0]) (t := 3) h (of_decide_eq_true (by kernel_rfl)) (by kernel_rfl) rfl (by kernel_rfl) (by kernel_rfl) Try.underlying3
theorem cell_lt {w : World} {a : Addr} {v : Value} (h : w.cell? a = some v) : a.block < w.heap.size := by
  rcases Nat.lt_or_ge a.block w.heap.size with h1 | h1
  · exact h1
  · have : w.heap[a.block]? = none := by simp [h1]
    simp [World.cell?, this] at h
theorem cell_keep {w w1 : World} {a : Addr} {v : Value} (hb : Below w.heap.size w w1) (h : w.cell? a = some v) : w1.cell? a = some v := by
  rw [hb.cell (cell_lt h)]; exact h
theorem take_snoc (s : ByteArray) (k : Nat) (h : k < s.size) : s.data.toList.take (k + 1) = s.data.toList.take k ++ [s[k]] := by
  rw [List.take_succ_eq_append_getElem (by simpa using h)]; rfl
theorem count_snoc (s : ByteArray) (k : Nat) (h : k < s.size) : ones (s.data.toList.take (k + 1)) = ones (s.data.toList.take k) + if s[k] = 49 then 1 else 0 := by
  unfold ones; rw [take_snoc s k h, List.count_append]; simp [List.count_cons, List.count_nil]
theorem count_le (l : List UInt8) (k : Nat) : ones (l.take k) ≤ k := Nat.le_trans List.count_le_length (by rw [List.length_take]; exact Nat.min_le_left _ _)
theorem alt_step (l : List UInt8) (k : Nat) (h : k + 1 < l.length) : alt (l.drop k) = ((l[k]'(by omega)) == 49 && l[k + 1] == 48 && alt (l.drop (k + 2))) := by
  rw [List.drop_eq_getElem_cons (by omega : k < l.length), List.drop_eq_getElem_cons h]; rfl
theorem alt_rest (l : List UInt8) (k : Nat) (h : l.length ≤ k + 1) : alt (l.drop k) = true := alt_short (by rw [List.length_drop]; omega)
theorem val_bad {l : List UInt8} (h : alt l = false) : val l = -1 := by unfold val; rw [h]; rfl
theorem val_good {l : List UInt8} (h : alt l = true) : val l = (l.length : Int) / 2 := by unfold val; rw [h, if_pos rfl]; omega
end Go.Proofs.Ytpiahjbpidcjpaa
