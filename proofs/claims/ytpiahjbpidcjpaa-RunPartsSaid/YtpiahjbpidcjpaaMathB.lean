/- Plain facts on lists of trees: no program. By an AI agent. -/
import Derived.Test.YtpiahjbpidcjpaaMath
namespace Go.Proofs.Ytpiahjbpidcjpaa.Pl
/-- the list of trees as a tree -/
def enc : List (List UInt8) → List UInt8
  | [] => [48]
  | l :: r => 49 :: (l ++ enc r)
theorem enc_pos (ls : List (List UInt8)) : 1 ≤ (enc ls).length := by cases ls <;> simp [enc]
/-- what has been written of it after k of them -/
def encTo (ls : List (List UInt8)) (k : Nat) : List UInt8 := (ls.take k).flatMap (49 :: ·)
theorem encTo_zero (ls : List (List UInt8)) : encTo ls 0 = [] := rfl
theorem encTo_succ (ls : List (List UInt8)) (k : Nat) (h : k < ls.length) : encTo ls (k + 1) = encTo ls k ++ [49] ++ ls.getD k [] := by
  unfold encTo
  rw [List.take_succ_eq_append_getElem h, List.flatMap_append]
  simp [List.getD, h]
theorem enc_all (ls : List (List UInt8)) : enc ls = encTo ls ls.length ++ [48] := by
  unfold encTo
  rw [List.take_length]
  induction ls with
  | nil => rfl
  | cons l r ih => simp [enc, ih]
theorem encTo_le (ls : List (List UInt8)) (k : Nat) : (encTo ls k).length + 1 ≤ (enc ls).length := by
  have h : encTo ls ls.length = encTo ls k ++ (ls.drop k).flatMap (49 :: ·) := by
    unfold encTo
    rw [List.take_length, ← List.flatMap_append, List.take_append_drop]
  rw [enc_all, h]
  simp
theorem encTo_out (ls : List (List UInt8)) {k : Nat} (h : ls.length ≤ k) : encTo ls k = encTo ls ls.length := by
  unfold encTo
  rw [List.take_of_length_le h, List.take_length]
theorem fs_enc : ∀ {ls : List (List UInt8)}, (∀ l ∈ ls, vld l = true) → fs (enc ls) 1 = some (enc ls).length
  | [], _ => rfl
  | l :: r, h => by
    have h1 := (vld_iff.1 (h l (by simp))).2
    have h2 := fs_enc (ls := r) (fun x hx => h x (by simp [hx]))
    show fs (49 :: (l ++ enc r)) 1 = some (49 :: (l ++ enc r)).length
    rw [fs_49, show 0 + 2 = 1 + 1 from rfl, fs_add, fs_append _ h1]
    simp only [Option.bind_some, List.drop_left, h2, Option.map_some]
    simp
theorem vld_enc {ls : List (List UInt8)} (h : ∀ l ∈ ls, vld l = true) (hs : (enc ls).length ≤ 2000000) : vld (enc ls) = true := vld_iff.2 ⟨hs, fs_enc h⟩
end Go.Proofs.Ytpiahjbpidcjpaa.Pl
