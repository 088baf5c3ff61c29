/- BuildThens, for every row of programs of bulk at most the number in the Rows text: Then returns the documented program, instruction by instruction, or the documented error; the law returns true, and its argument reads as it did. By an AI agent. -/
import Derived.Test.YtmhoacnbmbhcjabThens
import Derived.Test.YtmhoacnbmbhcjabOpenQ
import Derived.ProofKit
import Derived.SizedLaws
import Derived.Deep.CondSized
namespace Go.Proofs.Ytmhoacnbmbhcjab
open Go.ChangeShapes Go.WideShapes Go.Deep Go.RowKit Pl

theorem bulk_one {H : Type} (d : DataW H) : 1 ≤ Rows.uptoBulk d := by
  cases d with
  | lit l => cases l <;> simp [Rows.uptoBulk]
  | nil => simp [Rows.uptoBulk]
  | ptr d => simp [Rows.uptoBulk]
  | slice elems spare => simp [Rows.uptoBulk]
  | agg parts => simp [Rows.uptoBulk]
  | iface t d => simp [Rows.uptoBulk]
  | map entries => simp [Rows.uptoBulk]
  | held h => simp [Rows.uptoBulk]
theorem bulk_len {H : Type} (l : List (DataW H)) : l.length ≤ Rows.uptoBulkAll l := by
  induction l with
  | nil => simp [Rows.uptoBulkAll]
  | cons x r ih => have := bulk_one x; simp only [Rows.uptoBulkAll, List.length_cons]; omega
theorem bulk_sum {H α : Type} (g : α → Nat) (F : α → DataW H) : ∀ l : List α, (∀ x ∈ l, g x + 1 ≤ Rows.uptoBulk (F x)) → (l.map g).sum + l.length ≤ Rows.uptoBulkAll (l.map F)
  | [], _ => by simp [Rows.uptoBulkAll]
  | x :: r, h => by
    have h1 := h x List.mem_cons_self
    have h2 := bulk_sum g F r (fun y hy => h y (List.mem_cons_of_mem _ hy))
    simp only [List.map_cons, List.sum_cons, List.length_cons, Rows.uptoBulkAll]
    omega
theorem bulk_prog {H : Type} {enc : TypeId × Value → H} {W : World} {fuel : Nat} {a0 : Option Addr} {len cap : Nat} {x : DataW H × List MemPlace}
    (h : DataW.trod enc Try.prog W 0 (fun _ => true) true fuel 23 [.slice a0 len cap] = some x) : len + 1 ≤ Rows.uptoBulk x.1 := by
  rcases open_slice Try.underlying23 h with ⟨hcs, rfl⟩ | ⟨a, len', cap', m, n, D, Pl, hcs, _, hlc, _, hm, rfl, hi⟩
  · simp at hcs
    obtain ⟨rfl, rfl, rfl⟩ := hcs
    simp [Rows.uptoBulk]
  · simp at hcs
    obtain ⟨rfl, rfl, rfl⟩ := hcs
    have := bulk_len ((List.range len).map D)
    simp only [Rows.uptoBulk]
    simp only [List.length_map, List.length_range] at this
    omega
theorem cellsPro : Try.prog.cellsOf 23 = 1 := by kernel_rfl
theorem argP_len {w : World} {a0 : Option Addr} {len cap : Nat} {ps : List Ins} (h : ArgP w (.slice a0 len cap) ps) : ps.length = len := by
  rcases h with ⟨rfl, h | ⟨_, _, h⟩⟩ | ⟨_, _, _, _, h, _⟩ <;> simp at h <;> simp [h]
theorem trod_prog_form {H : Type} {enc : TypeId × Value → H} {W : World} {fuel : Nat} {v : Value} {x : DataW H × List MemPlace}
    (h : DataW.trod enc Try.prog W 0 (fun _ => true) true fuel 23 [v] = some x) : ∃ a0 len cap, v = .slice a0 len cap := by
  rcases open_slice Try.underlying23 h with ⟨hcs, _⟩ | ⟨a, len', cap', m, n, D, Pl, hcs, _⟩
  · simp at hcs; exact ⟨_, _, _, hcs⟩
  · simp at hcs; exact ⟨_, _, _, hcs⟩
theorem open_progs {H : Type} {enc : TypeId × Value → H} {W : World} {fuel : Nat} {a0 : Option Addr} {len cap : Nat} {x : DataW H × List MemPlace}
    (h : DataW.trod enc Try.prog W 0 (fun _ => true) true fuel 26 [.slice a0 len cap] = some x) (hlt : ∀ y ∈ x.2, y.block < W.heap.size)
    (hs : ∀ n ∈ x.1.weights Try.prog 26, n ≤ 140737488351232) (hb : Rows.uptoBulk x.1 ≤ 1048576) :
    len = 0 ∨ ∃ b off pss, a0 = some ⟨b, off, none⟩ ∧ pss.length = len ∧ 0 < len ∧ PiecesAt W b off pss ∧ (pss.map List.length).sum + pss.length ≤ 1048576 ∧ ∀ p ∈ pss, ∀ y ∈ p, y.tree.length ≤ 140737488351232 := by
  rcases open_slice Try.underlying26 h with ⟨hcs, _⟩ | ⟨a, len', cap', m, n, D, Pl, hcs, _, hlc, _, hm, rfl, hi⟩
  · simp at hcs
    exact .inl hcs.2.1
  · simp at hcs
    obtain ⟨rfl, rfl, rfl⟩ := hcs
    simp only [if_true] at hm
    by_cases hl0 : len = 0
    · exact .inl hl0
    refine .inr ?_
    have key : ∀ i, ∃ (v : Value) (ps : List Ins), i < len → W.cells? 0 (a.add (i * 1)) 1 = some [v] ∧ ArgP W v ps ∧ ps.length + 1 ≤ Rows.uptoBulk (D i) ∧ ∀ y ∈ ps, y.tree.length ≤ 140737488351232 := by
      intro i
      by_cases hlt' : i < len
      · obtain ⟨cs', h1, h2⟩ := hi i (by omega)
        rw [cellsPro] at h1
        obtain ⟨v, rfl⟩ : ∃ v, cs' = [v] := by
          have := (World.cells?_some h1).2.1
          rcases cs' with _ | ⟨v, _ | ⟨_, _⟩⟩ <;> simp at this
          exact ⟨v, rfl⟩
        obtain ⟨b0, l0, c0, rfl⟩ := trod_prog_form h2
        obtain ⟨ps, h3, h4, h5⟩ := open_prog h2 (fun y hy => hlt y (List.mem_append_right _ (List.mem_flatMap.2 ⟨i, List.mem_range.2 (by omega), hy⟩))) (fun n hn => hs n (by
          simp only [DataW.weights, Try.underlying26]
          exact List.mem_cons_of_mem _ (List.mem_append_left _ (mem_weightsAll (d := D i) (List.mem_map.2 ⟨i, List.mem_range.2 hlt', rfl⟩) _ hn))))
        exact ⟨_, ps, fun _ => ⟨h1, h4, by rw [argP_len h4]; exact bulk_prog h2, h5⟩⟩
      · exact ⟨.int .i64 0, [], fun h => absurd h hlt'⟩
    obtain ⟨V, hV⟩ := Classical.axiomOfChoice key
    obtain ⟨f, hf⟩ := Classical.axiomOfChoice hV
    have hlen : ((List.range len).map f).length = len := by simp
    obtain ⟨b, off, spot⟩ := a
    have hc0 := (World.cells?_some (hf 0 (by omega)).1).2.2 0 (by omega)
    have hspot : spot = none := by
      simp [Addr.add] at hc0
      exact World.cell?_spot hc0
    subst hspot
    have hbW : b < W.heap.size := hlt (.cell b off) (List.mem_append_left _ (MemPlace.mem_row.2 ⟨0, by rw [cellsPro]; omega, by simp⟩))
    refine ⟨b, off, (List.range len).map f, rfl, hlen, by omega, ⟨hbW, fun k p hp => ?_⟩, ?_, ?_⟩
    · have hk : k < len := by have := (List.getElem?_eq_some_iff.1 hp).1; rwa [hlen] at this
      obtain rfl : f k = p := by simpa [List.getElem?_map, List.getElem?_range hk] using hp
      have hc := (World.cells?_some (hf k hk).1).2.2 0 (by omega)
      have e : ((⟨b, off, none⟩ : Addr).add (k * 1)).add 0 = ⟨b, off + k, none⟩ := by
        unfold Addr.add; split <;> split <;> simp_all
      rw [e] at hc
      exact ⟨V k, by simpa using hc, (hf k hk).2.1⟩
    · have h1 := bulk_sum (fun i => (f i).length) D (List.range len) (fun i hi' => (hf i (List.mem_range.1 hi')).2.2.1)
      simp only [Rows.uptoBulk] at hb
      rw [List.map_map, hlen]
      simp only [List.length_range] at h1
      have e : List.map (List.length ∘ f) (List.range len) = List.map (fun i => (f i).length) (List.range len) := rfl
      rw [e]
      omega
    · intro p hp y hy
      obtain ⟨i, hi', rfl⟩ := List.mem_map.1 hp
      exact (hf i (List.mem_range.1 hi')).2.2.2 y hy
theorem flat_behind {l : List (List Ins)} (h : ∀ p ∈ l, PValid p) : (l.flatMap behind).length ≤ (l.map List.length).sum + 31 * l.length := by
  induction l with
  | nil => simp
  | cons p l ih =>
    have h1 := ih (fun q hq => h q (List.mem_cons_of_mem _ hq))
    have h2 := rn_le (h p List.mem_cons_self)
    simp only [List.flatMap_cons, List.length_append, List.map_cons, List.sum_cons, List.length_cons, behind, cleanL_len]
    omega
theorem thenL_len {l : List (List Ins)} (h : ∀ p ∈ l, PValid p) : (thenL l).length ≤ (l.map List.length).sum + 31 * l.length := by
  cases l with
  | nil => simp [thenL]
  | cons p l =>
    have := flat_behind (fun q hq => h q (List.mem_cons_of_mem _ hq))
    simp only [thenL, List.length_append, List.map_cons, List.sum_cons, List.length_cons]
    omega
theorem len_sum {l : List (List Ins)} {p : List Ins} (h : p ∈ l) : p.length ≤ (l.map List.length).sum := by
  induction l with
  | nil => cases h
  | cons q l ih =>
    rcases List.mem_cons.1 h with rfl | h
    · simp
    · have := ih h; simp; omega
end Go.Proofs.Ytmhoacnbmbhcjab

namespace Go.Proofs.Ytmhoacnbmbhcjab.buildThens
open Go.ChangeShapes Go.WideShapes Go.ChangeAt Go.RowKit Go.WideMaps Pl

theorem own : ownKnob Try.prog.godebug = none := by kernel_rfl
theorem laidOut : laidOutB Try.prog = true := by kernel_rfl

theorem thens_any (W : World) (a0 : Option Addr) (len cap : Nat) (h : len = 0 ∨ ∃ b off pss, a0 = some ⟨b, off, none⟩ ∧ pss.length = len ∧ 0 < len ∧ PiecesAt W b off pss ∧ (pss.map List.length).sum + pss.length ≤ 1048576 ∧ ∀ p ∈ pss, ∀ y ∈ p, y.tree.length ≤ 140737488351232) :
    Calls Try.prog 5 #[.slice a0 len cap] W fun e w' => e = .returned (.bool true) ∧ Below W.heap.size W w' := by
  rcases h with rfl | ⟨b, off, pss, rfl, rfl, h0, hp, hsum, ht⟩
  · exact thens_none W a0 cap
  · refine thens_some W b off cap pss hp h0 (by omega) (fun p h => ⟨?_, fun x hx => by have := ht p h x hx; omega⟩) (fun hv => ?_)
    · have := len_sum h; omega
    · have := thenL_len hv; omega

set_option maxRecDepth 100000 in
theorem lifted (os : Os) (started : os.Started) (H : Type) (enc : TypeId × Value → H) (F : Stop.Interp) :
    ReturnsInHanded {} Try.checked os 5 .any ((Rows.OpenSpec.upto Rows.buildThensSpec).pre6 enc Try.prog Try.f5 Rows.buildThensUptoRow.domain false) (((Rows.OpenSpec.upto Rows.buildThensSpec).at F).post enc Try.prog Try.f5 false true false false) := by
  refine returnsInHanded_of_cond_sized (C := Try.checked) (s := Rows.OpenSpec.upto Rows.buildThensSpec) (k := Rows.uptoSmall) rfl own started (by kernel_rfl) Try.func5
    (OpenSpec.witness (enc := enc) (C := Try.checked) (s := Rows.OpenSpec.upto Rows.buildThensSpec) (k := Rows.uptoSmall) rfl false ⟨#[], #[.slice none 0 0], []⟩ 8 (by kernel_rfl) (by kernel_rfl) (by kernel_rfl)
      (x := ([.nil], [], [])) (by kernel_rfl) rfl (by kernel_rfl)) ?_
  intro W base args ds gs before hval0 hW _ hk0 hsz0 _
  have hsz : (DataW.weightsEach Try.prog (Try.f5.params.toList ++ Rows.buildThensSpec.plain.varTypes Try.prog) (ds ++ gs)).all (· ≤ reachBytes) = true := hsz0
  clear hsz0
  have hk : Rows.uptoBulkAll (ds ++ gs) ≤ 1048576 := of_decide_eq_true hk0
  clear hk0
  have hval : ∀ (j : Nat) t v, Try.f5.params[j]? = some t → args[j]? = some v → Value.okWide Try.prog W .any base t v := hval0
  have hW' := hW
  obtain ⟨p, q, hA0, hV, rfl, _, _⟩ := hW
  have hA : DataW.TrodAll enc Try.prog W 0 (fun _ => true) true Try.f5.params.toList args.toList ds p := hA0
  rw [Try.params5] at hA hval hsz
  obtain ⟨v0, d0, rfl, rfl, h0⟩ := trodAll_one hA
  obtain ⟨rfl, rfl⟩ := trodVars_none hV
  obtain ⟨s0, len0, cap0, rfl⟩ := okWide_slice Try.underlying26 (hval 0 26 v0 rfl rfl)
  have h0k := h0
  obtain ⟨fuel0, hf0⟩ := h0
  clear hA0 hval0
  simp only [List.append_nil] at hW'
  have hlt0 : ∀ x ∈ p, x.block < W.heap.size := fun x hx => hW'.lt x (by simp [hx])
  have hb0 : Rows.uptoBulk d0 ≤ 1048576 := by
    simp only [List.append_nil, Rows.uptoBulkAll] at hk
    omega
  have ho := open_progs hf0 hlt0 (fun n hn => by
    have := of_decide_eq_true (List.all_eq_true.1 hsz n (DataW.weights_mem_each (j := 0) rfl rfl n hn))
    simpa [reachBytes] using this) hb0
  refine (thens_any W _ _ _ ho).mono fun e W' ⟨he, hnx⟩ => ⟨_, he, ?_⟩
  refine ⟨_, _, _, [] ++ [], p, [], hW', ?_, ?_, rfl, hnx.frame _, fun h => by cases h⟩
  · exact trodAll_mk1 (shut_bool Try.underlying4 _)
  · exact trodAll_mk1 (Below.trod laidOut (by kernel_rfl) (of_decide_eq_true (by kernel_rfl)) h0k hnx hlt0)

theorem holds : Rows.BuildThensUptoSaid :=
  OpenClaim.holds_of_cond 5 Try.f5 rfl rfl rfl rfl rfl rfl rfl ⟨rfl, rfl, rfl, rfl, rfl⟩ rfl rfl rfl rfl rfl (by kernel_rfl) Try.func5 (by kernel_rfl)
    (of_decide_eq_true (by kernel_rfl)) (by unfold Func.isWrapper; first | (rw [if_pos (by decide +kernel)]; kernel_rfl) | (rw [if_neg (by decide +kernel)]; exact ⟨rfl, rfl⟩))
    (fun os started H enc _ F => lifted os started H enc F)
end Go.Proofs.Ytmhoacnbmbhcjab.buildThens
