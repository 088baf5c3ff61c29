/- TreeItems, for every string and every slice of strings: Items of List is the list, and List of Items the tree: the law returns true, and its arguments read as they did. No condition beyond the row's own. By an AI agent. -/
import Derived.Test.YtkodkimdhalpcaaTreeItems
import Derived.ProofKit
import Derived.SizedLaws
import Derived.SliceStrings
namespace Go.Proofs.Ytkodkimdhalpcaa.treeItems
open Go.ChangeShapes Go.WideShapes Go.ChangeAt Go.RowKit Pl
open Go.ChangeMaps (open_string shut_string)

theorem own : ownKnob Try.prog.godebug = none := by kernel_rfl
theorem laidOut : laidOutB Try.prog = true := by kernel_rfl
theorem cellsStr : Try.prog.cellsOf 9 = 1 := by kernel_rfl
theorem bytesStr : Try.prog.bytesOf 9 = 16 := by kernel_rfl

theorem all_strs {H : Type} {P : Program} {e : TypeId} (ss : List ByteArray) : ∀ s ∈ ss, s.data.toList.length ∈ DataW.weightsAll P e (strs (H := H) ss) := by
  induction ss with
  | nil => intro s h; cases h
  | cons a r ih =>
    intro s h
    show _ ∈ DataW.weightsAll P e (DataW.lit (.string a.data.toList) :: strs r)
    rw [DataW.weightsAll, DataW.weights]
    rcases List.mem_cons.1 h with rfl | h
    · simp
    · exact List.mem_append_right _ (ih s h)
theorem sized_strs {H : Type} {P : Program} {ts : List TypeId} {ds : List (DataW H)} (h : (DataW.weightsEach P ts ds).all (· ≤ reachBytes) = true) {j : Nat} {t e : TypeId} {ss rr : List ByteArray} (ht : ts[j]? = some t) (hd : ds[j]? = some (.slice (strs ss) (strs rr))) (hu : P.underlying t = some (.slice e)) :
    ∀ s ∈ ss, s.size ≤ reachBytes := by
  intro s hs
  have hm := DataW.weights_mem_each ht hd s.data.toList.length (by
    rw [DataW.weights, hu]
    exact List.mem_cons_of_mem _ (List.mem_append_left _ (all_strs ss s hs)))
  have := of_decide_eq_true (List.all_eq_true.1 h _ hm)
  rwa [len_eq] at this

set_option maxRecDepth 100000 in
theorem lifted (os : Os) (started : os.Started) (H : Type) (enc : TypeId × Value → H) :
    ReturnsInHanded {} Try.checked os 9 .any (Rows.treeItemsSpec.pre6 enc Try.prog Try.f9 Rows.treeItemsRow.domain false) (Rows.treeItemsSpec.post enc Try.prog Try.f9 false true false false) := by
  refine returnsInHanded_of_change_sized (C := Try.checked) own started (by kernel_rfl) Try.func9
    (ChangeSpec.witness6 (enc := enc) (C := Try.checked) false ⟨#[], #[.string ByteArray.empty, .slice none 0 0], []⟩ 8 (by kernel_rfl) (by kernel_rfl) (by kernel_rfl) (by kernel_rfl)) ?_
  intro W base args ds gs before hval0 hW _ hsz0 _
  have hsz : (DataW.weightsEach Try.prog (Try.f9.params.toList ++ Rows.treeItemsSpec.plain.varTypes Try.prog) (ds ++ gs)).all (· ≤ reachBytes) = true := hsz0
  clear hsz0
  have hval : ∀ (j : Nat) t v, Try.f9.params[j]? = some t → args[j]? = some v → Value.okWide Try.prog W .any base t v := hval0
  have hW' := hW
  obtain ⟨p, q, hA0, hV, rfl, _, _⟩ := hW
  have hA : DataW.TrodAll enc Try.prog W 0 (fun _ => true) true Try.f9.params.toList args.toList ds p := hA0
  rw [Try.params9] at hA hval hsz
  obtain ⟨vs, v0, dstr, d0, ps, p, rfl, rfl, rfl, hstr0, h0⟩ := trodAll_two hA
  obtain ⟨rfl, rfl⟩ := trodVars_none hV
  obtain ⟨s, rfl, rfl, rfl, ws⟩ := open_string Try.underlying9 (hval 0 9 vs rfl rfl) hstr0
  obtain ⟨a0, len, cap, rfl⟩ := okWide_slice Try.underlying27 (hval 1 27 v0 rfl rfl)
  have h0k := h0
  obtain ⟨fuel, hf⟩ := h0
  clear hA0 hval0
  simp only [List.append_nil, List.nil_append] at hW'
  have rs : s.size ≤ 140737488351232 := by
    have := sized_string hsz (j := 0) (t := 9) rfl rfl
    simpa [reachBytes] using this
  have hlt : ∀ x ∈ p, x.block < W.heap.size := fun x hx => by simpa using hW'.lt x hx
  have fin : ∀ (W' : World), Below W.heap.size W W' → Rows.treeItemsSpec.post enc Try.checked.prog Try.f9 false true false false W #[.string s, .slice a0 len cap] (.bool true) W' := by
    intro W' hnx
    refine ⟨_, _, _, [] ++ [], [] ++ p, [], hW', ?_, ?_, rfl, hnx.frame _, fun h => by cases h⟩
    · exact trodAll_mk1 (shut_bool Try.underlying4 _)
    · exact trodAll_mk2 (shut_string Try.underlying9 ws) (Below.trod laidOut (by kernel_rfl) (of_decide_eq_true (by kernel_rfl)) h0k hnx hlt)
  rcases open_strings Try.underlying27 Try.underlying9 cellsStr hf with ⟨hcs, hx⟩ | ⟨a, len', cap', ss, hcs, _, hl, hm, hz, hx, hcell, hws⟩
  · simp [Value.cells] at hcs
    obtain ⟨rfl, rfl, rfl⟩ := hcs
    exact (TreeItems_nil W s (by omega)).mono fun e W' ⟨he, hw⟩ => ⟨_, he, fin _ hw⟩
  · simp [Value.cells] at hcs
    obtain ⟨rfl, rfl, rfl⟩ := hcs
    simp only [Prod.mk.injEq] at hx
    obtain ⟨rfl, rfl⟩ := hx
    simp only [if_true] at hz
    have hreach : len * 16 ≤ 140737488351232 := by
      have := sized_slice hsz (j := 1) (t := 27) (e := 9) rfl rfl Try.underlying27
      rw [bytesStr] at this
      simp only [strs, List.length_map, List.length_take, List.length_drop, reachBytes] at this
      omega
    have hstr := sized_strs hsz (j := 1) (t := 27) (e := 9) rfl rfl Try.underlying27
    have hll : ((ss.take len).map (·.data.toList)).length = len := by simp; omega
    have hzz : ∀ l ∈ (ss.take len).map (·.data.toList), l.length ≤ 281474976710656 := by
      intro l hl'
      obtain ⟨s, hs, rfl⟩ := List.mem_map.1 hl'
      have := hstr s hs
      rw [len_eq]
      simp only [reachBytes] at this
      omega
    have hget : ∀ k, k < len → ((ss.take len).map (·.data.toList)).getD k [] = (ss.getD k ByteArray.empty).data.toList := fun k hk => by
      have hks : k < ss.length := by omega
      simp [List.getD, hk, hks]
    have hnews : ∀ j u, (strsV ((ss.take len).map (·.data.toList)))[j]? = some u → W.cell? (a.add j) = some u := fun j u hu => by
      have hj : j < len := by
        have := (List.getElem?_eq_some_iff.1 hu).1
        rwa [strsV_len, hll] at this
      rw [hcell j (by omega)]
      have h2 := hget j hj
      simp only [strsV, List.getElem?_map] at hu
      have hks : j < ss.length := by omega
      simp [hj, hks] at hu
      rw [← hu]
      simp [List.getD, hks]
    have harg : ArgS W (.slice (some a) ((ss.take len).map (·.data.toList)).length cap) ((ss.take len).map (·.data.toList)) := by
      by_cases hl0 : len = 0
      · exact Or.inl ⟨List.length_eq_zero_iff.1 (by omega), some a, cap, by rw [hll, hl0]⟩
      · refine Or.inr ⟨by omega, ?_⟩
        obtain ⟨b, off, spot⟩ := a
        have hspot : spot = none := by simpa [Addr.add] using World.cell?_spot (hcell 0 (by omega))
        subst hspot
        refine ⟨b, off, cap, rfl, hlt (.cell b off) (MemPlace.mem_row.2 ⟨0, by omega, by simp⟩), fun k hk => ?_⟩
        rw [hll] at hk
        have h1 := hcell k (by omega)
        rw [add_plain] at h1
        rw [h1, hget k hk]
    have hgo := TreeItems_some W s a cap _ (by omega) (by rw [hll]; omega) hzz hnews harg
    rw [hll] at hgo
    exact hgo.mono fun e W' ⟨he, hw⟩ => ⟨_, he, fin _ hw⟩

theorem holds : Rows.TreeItemsSaid :=
  OpenClaim.holds_of_wide 9 Try.f9 rfl rfl rfl rfl rfl rfl rfl ⟨rfl, rfl, rfl, rfl, rfl⟩ rfl rfl rfl rfl rfl (by kernel_rfl) Try.func9 (by kernel_rfl)
    (of_decide_eq_true (by kernel_rfl)) (by unfold Func.isWrapper; first | (rw [if_pos (by decide +kernel)]; kernel_rfl) | (rw [if_neg (by decide +kernel)]; exact ⟨rfl, rfl⟩))
    (fun os started H enc _ => lifted os started H enc)
end Go.Proofs.Ytkodkimdhalpcaa.treeItems
