/- A range over a function that works on what the loop's body reads: one law, and the blocks of book-keeping beside it. By an AI agent. -/
import Derived.RangeFuncNested
import Derived.RangeFuncBound
import Derived.RangeFuncCalls
import Derived.RangeFuncLeaves
import Derived.OwnWalkIn
import Derived.TacticsInMore
import Derived.LoopNIn
import Derived.LoopIn
import Derived.WalkKit
import Derived.Test.YtpiahjbpidcjpaaNewM
namespace Go.Proofs.Ytpiahjbpidcjpaa
open Go.RowKit

section
variable {P : Program} {w : World} {n : Nat}
/-- how a round's body may be left: it goes on, or it returns -/
def RoundOut (B : Nat) (I' : World → Prop) (Ix : World → Prop) (W : World) : Exit → Act → World → Prop
  | .normal, _, W' => KeepsFrom B W W' ∧ I' W'
  | .ret, _, W' => KeepsFrom B W W' ∧ Ix W'
  | _, _, _ => False
theorem range_shared {g : Operand} {ps : Array Tmp} {assign body : Code} {Q : Exit → Act → World → Prop} {a : Act}
    {gf : Nat} {fi lb : Array Value} (hg : a.eval g = .func (.func gf) fi lb) (eg : ∀ args w, (callFunc gf args).run P w = .ok (.enter gf args) w) (hps : ps.size = 1)
    (I I' : Nat → World → Prop) (Ix Dn : World → Prop) (hI : OwnFrom w.heap.size I) (hI' : OwnFrom w.heap.size I') (hIx : OwnFrom w.heap.size (fun (_ : Unit) W => Ix W)) (hDn : OwnFrom w.heap.size (fun (_ : Unit) W => Dn W)) (h0 : I 0 w)
    (hseq : ∀ (l : Nat) (Z Jx : World → Prop), (∀ W W', KeepsFrom w.heap.size W W' → Z W → Z W') →
      (∀ k W, I k W → Z W → YieldAt Fence.wide (n - 1 - 1) P l #[.int .i64 (k : Int)] W fun e W' => (e = .returned (.bool true) ∧ I' k W' ∧ Z W') ∨ (e = .returned (.bool false) ∧ Jx W')) →
      ∀ W, I 0 W → Z W → CallsIn Fence.wide (n - 1) P gf (fi ++ #[.func (.yield l) #[] #[]] ++ lb) W fun e W' => (∃ v, e = .returned v) ∧ ((Dn W' ∧ Z W') ∨ Jx W'))
    (hround : ∀ (l k : Nat) (W : World), I k W → assign.wpIn (Fence.wide.inRound l) (n - 1 - 1) P (Exit.then (fun a₁ W₁ => W₁ = W ∧ ∀ W₂, I k W₂ → body.wpIn (Fence.wide.inRound l) (n - 1 - 1) P (RoundOut w.heap.size (I' k) Ix W₂) a₁ W₂) (fun _ _ _ => False)) { tmps := (ps.zip #[.int .i64 (k : Int)]).foldl (fun t (p, v) => t.setIfInBounds p v) a.tmps, defers := [] } W)
    (hdone : ∀ (D : Nat) (W : World), w.heap.size ≤ D → Dn W → W.heap[D]? = some (.deferred (some [])) → Q .normal { a with defers := { target := .collected D, args := #[] } :: a.defers } W)
    (hstop : ∀ (D : Nat) (W : World), w.heap.size ≤ D → Ix W → W.heap[D]? = some (.deferred (some [])) → Code.ret.wpIn Fence.wide n P Q { a with defers := { target := .collected D, args := #[] } :: a.defers } W) :
    (Code.rangeFunc g ps assign body).wpIn Fence.wide n P Q a w := by
  refine wpIn_rangeFunc ?_
  intro fn hfn
  have hro : Fence.wide.round = none := rfl
  rw [hro]
  let rec_ : LoopState → Option Code → Loop := fun st pe => { state := st, pending := pe, fn, tmps := a.tmps, params := ps, assign, body, defers := w.heap.size }
  let W1 := (w.alloc (.deferred (some []))).alloc (.loop (rec_ .ready none))
  have hL1 : W1.heap[w.heap.size + 1]? = some (.loop (rec_ .ready none)) := by
    have := World.alloc_heap_new (w.alloc (.deferred (some []))) (.loop (rec_ .ready none)); rwa [World.size_alloc] at this
  have hK1 : W1.heap[w.heap.size]? = some (.deferred (some [])) := (Below.heap_alloc _ _ _ (by simp)).trans (World.alloc_heap_new w _)
  have hI1 : I 0 W1 := hI.alloc _ (hI.alloc _ h0)
  let Z : World → Prop := fun W => W.heap[w.heap.size + 1]? = some (.loop (rec_ .ready none)) ∧ W.heap[w.heap.size]? = some (.deferred (some []))
  let Jx : World → Prop := fun W => Ix W ∧ W.heap[w.heap.size + 1]? = some (.loop (rec_ .done (some .ret))) ∧ W.heap[w.heap.size]? = some (.deferred (some []))
  have hZ : ∀ W W', KeepsFrom w.heap.size W W' → Z W → Z W' := fun W W' h hz => ⟨h.same _ _ (by omega) hz.1 rfl, h.same _ _ (Nat.le_refl _) hz.2 rfl⟩
  refine ⟨w.heap.size + 1, [{ target := .collected w.heap.size, args := #[] }], W1, { target := .fn (.func gf) lb, args := fi ++ #[.func (.yield (w.heap.size + 1)) #[] #[]] }, W1, gf,
    fi ++ #[.func (.yield (w.heap.size + 1)) #[] #[]] ++ lb, W1, ?_, ?_, ?_, ?_, fun h => ?_, ?_⟩
  · exact run_enterLoop_outer _ _ _ _ _
  · simp only [resolve, hg]
    simp [go_sem]
  · intro f' _; trivial
  · simp [invoke, go_sem, eg]
  · simp [Fence.wide] at h
  · refine (hseq (w.heap.size + 1) Z Jx hZ ?_ W1 hI1 ⟨hL1, hK1⟩).mono ?_
    · rintro k W hi ⟨hl, hk⟩
      have hlt : w.heap.size + 1 < W.heap.size := (Array.getElem?_eq_some_iff.1 hl).1
      refine ⟨fn, _, assign, body, run_yield (P := P) (args := #[.int .i64 (k : Int)]) hl (by rw [show (rec_ .ready none).params = ps from rfl, hps]; rfl), roundIn_of_wpIn hfn (wpIn_mono (hround (w.heap.size + 1) k W hi) ?_)⟩
      rintro e a1 W1 hp1
      cases e with
      | normal => ?_
      | ret => exact hp1.elim
      | exit id => exact hp1.elim
      | goto t => exact hp1.elim
      | panic ch => exact hp1.elim
      | outgrown => exact hp1.elim
      obtain ⟨hW1, hbody⟩ := hp1
      rw [hW1]
      refine ⟨_, run_beginRound hl rfl, ?_⟩
      have hi2 : I k (W.putObj (w.heap.size + 1) (.loop { rec_ .ready none with state := .busy })) := hI.putObj _ hi (by omega) hl rfl
      have hl2 : (W.putObj (w.heap.size + 1) (.loop { rec_ .ready none with state := .busy })).heap[w.heap.size + 1]? = some (.loop { rec_ .ready none with state := .busy }) := World.putObj_heap_same hlt
      have hk2 : (W.putObj (w.heap.size + 1) (.loop { rec_ .ready none with state := .busy })).heap[w.heap.size]? = some (.deferred (some [])) := (World.putObj_heap_other (by omega)).trans hk
      refine wpIn_mono (hbody _ hi2) ?_
      rintro e a3 W3 hp
      cases e with
      | normal =>
        obtain ⟨hk3, hi3⟩ := hp
        have hl3 := hk3.same _ _ (by omega) hl2 rfl
        have hd3 := hk3.same _ _ (Nat.le_refl _) hk2 rfl
        exact ⟨_, _, run_endRound none hl3, .inl ⟨rfl, hI'.putObj _ hi3 (by omega) hl3 rfl, World.putObj_heap_same (Array.getElem?_eq_some_iff.1 hl3).1, (World.putObj_heap_other (by omega)).trans hd3⟩⟩
      | ret =>
        obtain ⟨hk3, hi3⟩ := hp
        have hl3 := hk3.same _ _ (by omega) hl2 rfl
        have hd3 := hk3.same _ _ (Nat.le_refl _) hk2 rfl
        exact ⟨_, _, run_endRound (some .ret) hl3, .inr ⟨rfl, hIx.putObj (s := ()) _ hi3 (by omega) hl3 rfl, World.putObj_heap_same (Array.getElem?_eq_some_iff.1 hl3).1, (World.putObj_heap_other (by omega)).trans hd3⟩⟩
      | exit id => exact hp.elim
      | goto t => exact hp.elim
      | panic ch => exact hp.elim
      | outgrown => exact hp.elim
    · rintro e W2 ⟨⟨v, rfl⟩, (⟨hd, hl, hk⟩ | ⟨hi, hl, hk⟩)⟩
      · exact ⟨none, _, run_endLoop (P := P) hl (by simp [rec_]), hdone _ _ (Nat.le_refl _) (hDn.putObj (s := ()) _ hd (by omega) hl rfl) ((World.putObj_heap_other (by omega)).trans hk)⟩
      · exact ⟨some .ret, _, run_endLoop (P := P) hl (by simp [rec_]), hstop _ _ (Nat.le_refl _) (hIx.putObj (s := ()) _ hi (by omega) hl rfl) ((World.putObj_heap_other (by omega)).trans hk)⟩
end
theorem But.keepsFrom {M B : Nat} {w w' : World} (h : But M w w') (hM : ∃ C τ fr, w.heap[M]? = some (.cells C τ fr)) : KeepsFrom B w w' :=
  ⟨h.size, fun k o _ hk ho => by
    by_cases e : k = M
    · subst e
      obtain ⟨C, τ, fr, h1⟩ := hM
      rw [h1] at hk; cases hk; cases ho
    · rw [h.block k (Array.getElem?_eq_some_iff.1 hk).1 e]; exact hk⟩
end Go.Proofs.Ytpiahjbpidcjpaa
