/- Plain facts on lists of trees: no program. By an AI agent. -/
import Derived.Test.YtmhoacnbmbhcjabBase
import Derived.Deep.RegionHeld3
import Derived.Deep.AppendLies
import Derived.Lib.AppendStr
import Derived.Laws.AppendOwnNone
namespace Go.Proofs.Ytmhoacnbmbhcjab.Pl
/-- the list of trees as a tree -/
def enc : List (List UInt8) → List UInt8
  | [] => [48]
  | l :: r => 49 :: (l ++ enc r)
theorem enc_pos (ls : List (List UInt8)) : 1 ≤ (enc ls).length := by cases ls <;> simp [enc]
/-- what has been written of it after k of them -/
def encTo (ls : List (List UInt8)) (k : Nat) : List UInt8 := (ls.take k).flatMap (49 :: ·)
theorem encTo_zero (ls : List (List UInt8)) : encTo ls 0 = [] := rfl
theorem encTo_succ (ls : List (List UInt8)) (k : Nat) (h : k < ls.length) : encTo ls (k + 1) = encTo ls k ++ [49] ++ ls.getD k [] := by
  unfold encTo
  rw [List.take_succ_eq_append_getElem h, List.flatMap_append]
  simp [List.getD, h]
theorem enc_all (ls : List (List UInt8)) : enc ls = encTo ls ls.length ++ [48] := by
  unfold encTo
  rw [List.take_length]
  induction ls with
  | nil => rfl
  | cons l r ih => simp [enc, ih]
theorem encTo_le (ls : List (List UInt8)) (k : Nat) : (encTo ls k).length + 1 ≤ (enc ls).length := by
  have h : encTo ls ls.length = encTo ls k ++ (ls.drop k).flatMap (49 :: ·) := by
    unfold encTo
    rw [List.take_length, ← List.flatMap_append, List.take_append_drop]
  rw [enc_all, h]
  simp
theorem encTo_out (ls : List (List UInt8)) {k : Nat} (h : ls.length ≤ k) : encTo ls k = encTo ls ls.length := by
  unfold encTo
  rw [List.take_of_length_le h, List.take_length]
theorem fs_enc : ∀ {ls : List (List UInt8)}, (∀ l ∈ ls, vld l = true) → fs (enc ls) 1 = some (enc ls).length
  | [], _ => rfl
  | l :: r, h => by
    have h1 := (vld_iff.1 (h l (by simp))).2
    have h2 := fs_enc (ls := r) (fun x hx => h x (by simp [hx]))
    show fs (49 :: (l ++ enc r)) 1 = some (49 :: (l ++ enc r)).length
    rw [fs_49, show 0 + 2 = 1 + 1 from rfl, fs_add, fs_append _ h1]
    simp only [Option.bind_some, List.drop_left, h2, Option.map_some]
    simp
theorem vld_enc {ls : List (List UInt8)} (h : ∀ l ∈ ls, vld l = true) (hs : (enc ls).length ≤ 2000000) : vld (enc ls) = true := vld_iff.2 ⟨hs, fs_enc h⟩
end Go.Proofs.Ytmhoacnbmbhcjab.Pl

namespace Go.Proofs.Ytmhoacnbmbhcjab
open Go.RowKit Pl

theorem rep_num (n : Nat) : Lib.repeatL [49, 48] n ++ [48] = num n := by
  induction n with
  | zero => rfl
  | succ n ih => rw [num_succ, ← ih]; rfl
/-- the list holds what is valid -/
def AllV (ls : List (List UInt8)) : Prop := ∀ l ∈ ls, vld l = true
theorem AllV.at {ls : List (List UInt8)} (h : AllV ls) {k : Nat} (hk : k < ls.length) : vld (ls.getD k []) = true := h _ (by simp [List.getD, hk])

/-- cells of a slice of strings -/
def StrAt (w : World) (b off : Nat) (ls : List (List UInt8)) : Prop := b < w.heap.size ∧ ∀ k, k < ls.length → w.cell? ⟨b, off + k, none⟩ = some (.string (S (ls.getD k [])))
theorem StrAt.below {w w1 : World} {b off : Nat} {ls : List (List UInt8)} (h : StrAt w b off ls) (hb : Below w.heap.size w w1) : StrAt w1 b off ls :=
  ⟨Nat.lt_of_lt_of_le h.1 hb.size, fun k hk => by rw [hb.cell (p := ⟨b, off + k, none⟩) h.1]; exact h.2 k hk⟩

theorem encTo_len (ls : List (List UInt8)) (k : Nat) (h : k < ls.length) : (encTo ls (k + 1)).length = (encTo ls k).length + (1 + (ls.getD k []).length) := by
  rw [encTo_succ ls k h]; simp; omega

theorem WS (B b : Nat) (l x : List UInt8) (w : World) (h : Lib.IsBuilder 114 5 B b (Lib.byteCells l) w) (hlen : l.length + x.length ≤ 140737488355328) (hBw : B ≤ w.heap.size) :
    Calls Try.prog 91 #[.pointer (some ⟨b, 0, none⟩), .string (S x)] w fun e w' => e = .returned (.tuple #[.int .i64 x.length, .nilIface]) ∧ Lib.IsBuilder 114 5 B b (Lib.byteCells (l ++ x)) w' ∧ Below B w w' := by
  refine (Try.Builder_WriteString B b _ (S x) w h (by rw [Lib.byteCells_length, S_size]; exact hlen) hBw).mono fun e w' ⟨h1, h2, h3⟩ => ⟨by rw [h1, S_size], ?_, h3⟩
  rw [Lib.byteCells_append]
  exact Or.inr h2

end Go.Proofs.Ytmhoacnbmbhcjab

namespace Go.Proofs.Ytmhoacnbmbhcjab
open Go.RowKit Pl
theorem aw_valid (b : Bool) (l : List UInt8) (W : World) (hl : l.length ≤ 10) (h : vld l = b) : Calls Try.prog 62 #[.string (S l)] W fun e w' => e = .returned (.bool b) ∧ Below W.heap.size W w' := Valid_is b (S l) W (by rw [S_size]; omega) h

end Go.Proofs.Ytmhoacnbmbhcjab

namespace Go.Proofs.Ytmhoacnbmbhcjab
open Go.RowKit Pl

theorem cat3 (a b : ByteArray) : ((49 :: (a.data.toList ++ b.data.toList)) == (({ data := #[49] } : ByteArray) ++ a ++ b).toList) = true := by
  rw [ByteArray.toList_eq, beq_iff_eq]
  simp
theorem rValid_is (b : Bool) (s : ByteArray) (w : World) (hs : s.size ≤ 281474976710656) (h : vld s.data.toList = b) :
    Calls Try.prog 13 #[.string s] w fun e w' => e = .returned (.bool b) ∧ w = w' := by
  rw [← h]; exact rValid_any s w hs

end Go.Proofs.Ytmhoacnbmbhcjab

namespace Go.Proofs.Ytmhoacnbmbhcjab
open Go.RowKit Pl

theorem Try.infoByte : (Try.prog.info? 5).map (fun i => (i.zero, i.size, i.bytes)) = some (some (.int .u8 0), 1, 1) := by kernel_rfl
def numTo (k : Nat) : List UInt8 := (List.replicate k [49, 48]).flatten
theorem numTo_succ (k : Nat) : numTo (k + 1) = numTo k ++ [49, 48] := by unfold numTo; rw [List.replicate_succ']; simp
theorem num_to (k : Nat) : num k = numTo k ++ [48] := rfl
theorem numTo_len (k : Nat) : (numTo k).length = 2 * k := by
  induction k with
  | zero => rfl
  | succ k ih => rw [numTo_succ]; simp [ih]; omega

theorem app_below {B : Nat} {w wr w1 : World} {e : TypeId} {size : Nat} {v : Value} {n : Nat} {xs : List Value} {o : Obj} (hnx : Below B w wr) (hB : B ≤ wr.heap.size) (hown : wr.ownsRow B e size v n xs) (hgrow : (wr.alloc o).grownBy w1 v.ownBlock) : Below B w w1 :=
  (hnx.alloc hB o).grown hgrow (by simp; omega) (fun k h => (hown.lt k h).1)
theorem own_bytes {w : World} {base n : Nat} {e : TypeId} {v : Value} {l : List UInt8} (h : w.ownsRow base e 1 v n (Lib.byteCells l)) (hl : 0 < n) :
    ∃ g cap, v = .slice (some ⟨g, 0, none⟩) l.length cap ∧ n = l.length ∧ ∀ j (hj : j < l.length), w.cell? ((⟨g, 0, none⟩ : Addr).add j) = some (.int .u8 (l[j].toNat : Int)) := by
  have hc := fun (g : Nat) => h.cells (g := g)
  obtain ⟨h1, h2⟩ := h
  rw [Lib.byteCells_length, Nat.mul_one] at h1
  rcases h2 with ⟨_, h0⟩ | ⟨g, cap, cur, rfl, _⟩
  · omega
  · refine ⟨g, cap, by rw [h1], h1.symm, fun j hj => hc g (by simp [Value.ownBlock]) j _ (by simp [Lib.byteCells, hj])⟩

end Go.Proofs.Ytmhoacnbmbhcjab

namespace Go.Proofs.Ytmhoacnbmbhcjab
open Go.RowKit Pl
theorem same_str (l : List UInt8) : (!(l == l)) = false := by simp
/-- 'append(v, s...)', s a string, at a step of a region that draws -/
theorem step_append_own_string {P : Program} {ops : Array Oper} {o : Oper} {a : Act} {w : World} {K : Act → World → Prop} {Q : Exit → Act → World → Prop} {E : Prop} (hgd : o.guard = none) (sl x : Operand) (t u : TypeId)
    (ho : o.op = .call { callee := .builtin .append, args := #[sl, x], argTypes := #[t, u] })
    (base : Nat) (e : TypeId) (i : TypeInfo) (ht : P.underlying t = some (.slice e)) (hu : P.underlying u = some .string) (hi : P.info? e = some i) (hz : i.zero = some (.int .u8 0))
    (hsize : i.size = 1) (hby : i.bytes = 1)
    (v : Value) (n : Nat) (xs : List Value) (hs : a.eval sl = v) (hown : w.ownsRow base e 1 v n xs) (s : ByteArray) (hx : a.eval x = .string s)
    (h63 : n + s.size ≤ maxLen) (hbytes : n + s.size ≤ 140737488355328) (hbase : base ≤ w.heap.size)
    (h : ∀ v' w', w'.ownsRow base e 1 v' (n + s.size) (xs ++ Lib.strCells s) → w.grownBy w' v.ownBlock → K (a.put o.dst v') w') :
    if Region.wanted o (yielded ops a.tmps) = true then Oper.wp P o a w K Q else E := by
  have hw : Region.wanted o (yielded ops a.tmps) = true := by simp [Region.wanted, hgd]
  rw [if_pos hw]
  obtain ⟨v', w', hr, h2, h3, _⟩ := Lib.run_append_own_string (P := P) (w := w) base t u o.type e i ht hu hi hz hsize hby v n xs hown s h63 hbytes hbase
  unfold Oper.wp execOp
  simp only [ho, resolve, invoke, builtin, Sem.run_bind, Sem.run_pure, Result.andThen_ok, List.map_toArray, List.map_cons, List.map_nil, hs, hx, hr]
  exact h v' w' h2 h3

end Go.Proofs.Ytmhoacnbmbhcjab

namespace Go.Proofs.Ytmhoacnbmbhcjab
open Go.RowKit Pl

theorem Try.infoStr : (Try.prog.info? 9).map (fun i => (i.zero, i.size, i.bytes)) = some (some (.string ⟨#[]⟩), 1, 16) := by kernel_rfl
theorem own_empty {w : World} {base : Nat} {e : TypeId} {size : Nat} {v : Value} {xs : List Value} (h : w.ownsRow base e size v 0 xs) : ∃ b d, v = .slice b 0 d := by
  rcases h.2 with ⟨h1, _⟩ | ⟨g, cap, cur, h1, _⟩
  · exact ⟨_, _, h1⟩
  · exact ⟨_, _, h1⟩
theorem mstep1 (q x : Nat) : min ((q : Int) + 1 + (x : Int)) 2000001 = ((min (q + 1 + x) 2000001 : Nat) : Int) := by omega
theorem mstep2 (q : Nat) : min q 2000001 ≤ 2000001 := Nat.min_le_right _ _
theorem mstep {q u x : Nat} (h : min (q + 1) 2000001 = u) : min ((u : Int) + 1 + (x : Int)) 2000001 = ((min (q + (1 + x) + 1) 2000001 : Nat) : Int) := by omega
theorem mtop {q : Nat} (h : 2000000 < q + 1) : min (q + 1) 2000001 = 2000001 := by omega
theorem mlow {q : Nat} (h : q + 1 ≤ 2000000) : min (q + 1) 2000001 = q + 1 := by omega
theorem mlow2 {q : Nat} (h : q + 1 ≤ 2000000) : decide ((2000000 : Int) < (q : Int) + 1) = false := by rw [decide_eq_false_iff_not]; omega
/-- strings as cells -/
def strsV (ls : List (List UInt8)) : List Value := ls.map fun l => Value.string (S l)
theorem strsV_len (ls : List (List UInt8)) : (strsV ls).length = ls.length := by simp [strsV]

theorem own_strs {w : World} {base n : Nat} {e : TypeId} {v : Value} {ls : List (List UInt8)} (h : w.ownsRow base e 1 v n (strsV ls)) (hl : 0 < n) :
    ∃ g cap, v = .slice (some ⟨g, 0, none⟩) ls.length cap ∧ n = ls.length ∧ base ≤ g ∧ StrAt w g 0 ls := by
  have hc := fun (g : Nat) => h.cells (g := g)
  have hlt := h.lt
  obtain ⟨h1, h2⟩ := h
  rw [strsV_len, Nat.mul_one] at h1
  rcases h2 with ⟨_, h0⟩ | ⟨g, cap, cur, rfl, _⟩
  · omega
  · refine ⟨g, cap, by rw [h1], h1.symm, (hlt g rfl).1, (hlt g rfl).2, fun k hk => ?_⟩
    have := hc g (by simp [Value.ownBlock]) k (.string (S (ls.getD k []))) (by simp [strsV, List.getD, hk])
    rw [show ((⟨g, 0, none⟩ : Addr).add k) = ⟨g, 0 + k, none⟩ from by unfold Addr.add; split <;> simp_all] at this
    exact this
theorem strs_news {w : World} {b off : Nat} {ls : List (List UInt8)} (h : StrAt w b off ls) (o : Obj) : ∀ j u, (strsV ls)[j]? = some u → (w.alloc o).cell? ((⟨b, off, none⟩ : Addr).add j) = some u := by
  intro j u hu
  have hj : j < ls.length := by
    have := (List.getElem?_eq_some_iff.1 hu).1
    rwa [strsV_len] at this
  have := h.2 j hj
  rw [show ((⟨b, off, none⟩ : Addr).add j) = ⟨b, off + j, none⟩ from by unfold Addr.add; split <;> simp_all]
  rw [World.cell?_alloc_past _ _ _ h.1, this]
  simpa [strsV, List.getD, hj] using hu
theorem strs_one (ls : List (List UInt8)) : ∀ u ∈ strsV ls, u.oneCell' = true := by
  intro u hu
  simp only [strsV, List.mem_map] at hu
  obtain ⟨l, _, rfl⟩ := hu
  rfl
end Go.Proofs.Ytmhoacnbmbhcjab
