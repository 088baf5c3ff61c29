/- The walk of TreeLists. By an AI agent. -/
import Derived.Test.YtpiahjbpidcjpaaRList
import Derived.Laws.AppendOwnNone
namespace Go.Proofs.Ytpiahjbpidcjpaa
open Go.RowKit Pl

theorem Try.infoStr : (Try.prog.info? 9).map (fun i => (i.zero, i.size, i.bytes)) = some (some (.string ⟨#[]⟩), 1, 16) := by kernel_rfl
theorem own_empty {w : World} {base : Nat} {e : TypeId} {size : Nat} {v : Value} {xs : List Value} (h : w.ownsRow base e size v 0 xs) : ∃ b d, v = .slice b 0 d := by
  rcases h.2 with ⟨h1, _⟩ | ⟨g, cap, cur, h1, _⟩
  · exact ⟨_, _, h1⟩
  · exact ⟨_, _, h1⟩
theorem mstep1 (q x : Nat) : min ((q : Int) + 1 + (x : Int)) 2000001 = ((min (q + 1 + x) 2000001 : Nat) : Int) := by omega
theorem mstep2 (q : Nat) : min q 2000001 ≤ 2000001 := Nat.min_le_right _ _
theorem mstep {q u x : Nat} (h : min (q + 1) 2000001 = u) : min ((u : Int) + 1 + (x : Int)) 2000001 = ((min (q + (1 + x) + 1) 2000001 : Nat) : Int) := by omega
theorem mtop {q : Nat} (h : 2000000 < q + 1) : min (q + 1) 2000001 = 2000001 := by omega
theorem mlow {q : Nat} (h : q + 1 ≤ 2000000) : min (q + 1) 2000001 = q + 1 := by omega
theorem mlow2 {q : Nat} (h : q + 1 ≤ 2000000) : decide ((2000000 : Int) < (q : Int) + 1) = false := by rw [decide_eq_false_iff_not]; omega
/-- strings as cells -/
def strsV (ls : List (List UInt8)) : List Value := ls.map fun l => Value.string (S l)
theorem strsV_len (ls : List (List UInt8)) : (strsV ls).length = ls.length := by simp [strsV]

theorem own_strs {w : World} {base n : Nat} {e : TypeId} {v : Value} {ls : List (List UInt8)} (h : w.ownsRow base e 1 v n (strsV ls)) (hl : 0 < n) :
    ∃ g cap, v = .slice (some ⟨g, 0, none⟩) ls.length cap ∧ n = ls.length ∧ base ≤ g ∧ StrAt w g 0 ls := by
  have hc := fun (g : Nat) => h.cells (g := g)
  have hlt := h.lt
  obtain ⟨h1, h2⟩ := h
  rw [strsV_len, Nat.mul_one] at h1
  rcases h2 with ⟨_, h0⟩ | ⟨g, cap, cur, rfl, _⟩
  · omega
  · refine ⟨g, cap, by rw [h1], h1.symm, (hlt g rfl).1, (hlt g rfl).2, fun k hk => ?_⟩
    have := hc g (by simp [Value.ownBlock]) k (.string (S (ls.getD k []))) (by simp [strsV, List.getD, hk])
    rw [show ((⟨g, 0, none⟩ : Addr).add k) = ⟨g, 0 + k, none⟩ from by unfold Addr.add; split <;> simp_all] at this
    exact this
theorem strs_news {w : World} {b off : Nat} {ls : List (List UInt8)} (h : StrAt w b off ls) (o : Obj) : ∀ j u, (strsV ls)[j]? = some u → (w.alloc o).cell? ((⟨b, off, none⟩ : Addr).add j) = some u := by
  intro j u hu
  have hj : j < ls.length := by
    have := (List.getElem?_eq_some_iff.1 hu).1
    rwa [strsV_len] at this
  have := h.2 j hj
  rw [show ((⟨b, off, none⟩ : Addr).add j) = ⟨b, off + j, none⟩ from by unfold Addr.add; split <;> simp_all]
  rw [World.cell?_alloc_past _ _ _ h.1, this]
  simpa [strsV, List.getD, hj] using hu
theorem strs_one (ls : List (List UInt8)) : ∀ u ∈ strsV ls, u.oneCell' = true := by
  intro u hu
  simp only [strsV, List.mem_map] at hu
  obtain ⟨l, _, rfl⟩ := hu
  rfl
end Go.Proofs.Ytpiahjbpidcjpaa
