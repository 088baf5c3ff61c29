/- The reference's Decode. By an AI agent. -/
import Derived.Test.YtpiahjbpidcjpaaRegs
import Derived.Test.YtpiahjbpidcjpaaCV
namespace Go.Proofs.Ytpiahjbpidcjpaa
open Go.RowKit Pl

/-- the instruction that a tree is read as -/
def decr (op a : Int) (r : List UInt8) : Ins :=
  if op = 0 then ⟨op, a, 0, 0, r⟩
  else if op = 1 ∨ op = 3 ∨ op = 4 then ⟨op, a, val r, 0, []⟩
  else if op = 2 then ⟨op, a, val (hd r), val (tl r), []⟩
  else if op = 5 then ⟨op, a, if hd r = [48] then val (tl r) else -val (tl r), 0, []⟩
  else ⟨op, a, 0, 0, []⟩
def dec (it : List UInt8) : Ins := decr (val (hd it)) (val (hd (tl it))) (tl (tl it))
def decs (ls : List (List UInt8)) : List Ins := ls.map dec
theorem decs_len (ls : List (List UInt8)) : (decs ls).length = ls.length := by simp [decs]
theorem decs_take {ls : List (List UInt8)} {k : Nat} (h : k < ls.length) : decs (ls.take (k + 1)) = decs (ls.take k) ++ [dec (ls.getD k [])] := by
  unfold decs
  rw [List.take_succ_eq_append_getElem h, List.map_append]; simp [List.getD, h]
theorem val_ge (l : List UInt8) : -1 ≤ val l := by unfold val; split <;> omega
theorem val_le (l : List UInt8) : val l ≤ l.length := by unfold val; split <;> omega

theorem cells_one (x : Ins) : ∀ u ∈ x.cells, u.oneCell' = true := by
  have := progV_oneCell [x]
  rwa [progV_one] at this

theorem news_second (wr : World) (o : Obj) (x : Ins) (ty : TypeId) : ∀ t u, x.cells[t]? = some u → ((wr.alloc o).alloc (.cells x.cells.toArray ty)).cell? ((⟨wr.heap.size + 1, 0, none⟩ : Addr).add t) = some u := by
  have h := World.news_of_block (heap_alloc_new (wr.alloc o) (Obj.cells x.cells.toArray ty))
  rw [show (wr.alloc o).heap.size = wr.heap.size + 1 from by simp] at h
  intro t u ht
  exact h t u (by simpa using ht)
theorem own_base {w : World} {base base2 n : Nat} {e : TypeId} {size : Nat} {v : Value} {xs : List Value} (h : w.ownsRow base e size v n xs) (hb : base2 ≤ base) : w.ownsRow base2 e size v n xs := by
  refine ⟨h.1, ?_⟩
  rcases h.2 with h | ⟨g, cap, cur, h1, h2, h3⟩
  · exact .inl h
  · exact .inr ⟨g, cap, cur, h1, Nat.le_trans hb h2, h3⟩
theorem decr_tree (op a : Int) (r : List UInt8) : (decr op a r).tree.length ≤ r.length := by
  unfold decr; (repeat' split) <;> simp
theorem dec_tree {it : List UInt8} (h : vld it = true) : (dec it).tree.length ≤ 281474976710656 := by
  have := decr_tree (val (hd it)) (val (hd (tl it))) (tl (tl it))
  have := (vld_iff.1 (vld_hd (vld_hd h).2).2).1
  unfold dec; omega

end Go.Proofs.Ytpiahjbpidcjpaa
