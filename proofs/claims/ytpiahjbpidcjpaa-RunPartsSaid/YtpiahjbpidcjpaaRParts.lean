/- RunParts: where there is nothing to compare. By an AI agent. -/
import Derived.Test.YtpiahjbpidcjpaaFirst
import Derived.Test.YtpiahjbpidcjpaaSameS
namespace Go.Proofs.Ytpiahjbpidcjpaa
open Go.RowKit Pl

set_option maxHeartbeats 1600000 in
set_option maxRecDepth 100000 in
theorem rparts_form (w : World) (v : Value) (x : ByteArray) (k : Int) (ps : List Ins) (h : ArgP w v ps) (hl : ps.length ≤ 281474976710656) (hz : ∀ x ∈ ps, x.tree.length ≤ 281474976710656) (hp : ¬ PValid ps) :
    Calls Try.prog 4 #[v, .string x, .int .i64 k] w (AwkP w) := by
  have HPV := Lib.hid (PV_arg w v ps false h hl hz (by simp [hp]))
  clear h hl hz hp
  go_enter Try.func4, Try.ntmps4
  go_wp2_with fail
  refine HPV.out.mono ?_
  rintro e w1 ⟨rfl, h1⟩
  have H1 := Lib.hid h1
  clear h1
  go_wp2_with fail
  refine (awake3_any _).mono ?_
  rintro e w2 ⟨rfl, h2⟩
  go_wp2
  go_ret
  exact ⟨rfl, bstep H1.out h2⟩
set_option maxHeartbeats 1600000 in
set_option maxRecDepth 100000 in
theorem rparts_tree (w : World) (v : Value) (x : ByteArray) (k : Int) (ps : List Ins) (h : ArgP w v ps) (hp : PValid ps) (hx : x.size ≤ 281474976710656) (hv : vld x.data.toList = false) :
    Calls Try.prog 4 #[v, .string x, .int .i64 k] w (AwkP w) := by
  have HPV := Lib.hid (PV_arg w v ps true h (by have := hp.1; omega) (fun x hx => by have := PV_tree_le hp hx; omega) (by simp [hp]))
  have HX := Lib.hid (fun W => rValid_eq false x W hx hv)
  clear h hp hx hv
  go_enter Try.func4, Try.ntmps4
  go_wp2_with fail
  refine HPV.out.mono ?_
  rintro e w1 ⟨rfl, h1⟩
  have H1 := Lib.hid h1
  clear h1
  go_wp2_with fail
  refine (HX.out _).mono ?_
  rintro e w5 ⟨rfl, rfl⟩
  go_wp2_with fail
  refine (awake3_any _).mono ?_
  rintro e w2 ⟨rfl, h2⟩
  go_wp2
  go_ret
  exact ⟨rfl, bstep H1.out h2⟩
set_option maxHeartbeats 1600000 in
set_option maxRecDepth 100000 in
theorem rparts_far (w : World) (v : Value) (x : ByteArray) (k : Int) (ps : List Ins) (h : ArgP w v ps) (hp : PValid ps) (hv : vld x.data.toList = true) (hk : k < 0 ∨ 300 < k) :
    Calls Try.prog 4 #[v, .string x, .int .i64 k] w (AwkP w) := by
  have HPV := Lib.hid (PV_arg w v ps true h (by have := hp.1; omega) (fun x hx => by have := PV_tree_le hp hx; omega) (by simp [hp]))
  have HX := Lib.hid (fun W => rValid_eq true x W (by have := vld_size hv; omega) hv)
  clear h hp hv
  by_cases h0 : k < 0
  · clear hk
    go_enter Try.func4, Try.ntmps4
    go_wp2_with fail
    refine HPV.out.mono ?_
    rintro e w1 ⟨rfl, h1⟩
    have H1 := Lib.hid h1
    clear h1
    go_wp2_with fail
    refine (HX.out _).mono ?_
    rintro e w5 ⟨rfl, rfl⟩
    go_wp2_with fail
    refine (awake3_any _).mono ?_
    rintro e w2 ⟨rfl, h2⟩
    go_wp2
    go_ret
    exact ⟨rfl, bstep H1.out h2⟩
  · have h3 : 300 < k := by omega
    clear hk
    go_enter Try.func4, Try.ntmps4
    go_wp2_with fail
    refine HPV.out.mono ?_
    rintro e w1 ⟨rfl, h1⟩
    have H1 := Lib.hid h1
    clear h1
    go_wp2_with fail
    refine (HX.out _).mono ?_
    rintro e w5 ⟨rfl, rfl⟩
    go_wp2_with fail
    refine (awake3_any _).mono ?_
    rintro e w2 ⟨rfl, h2⟩
    go_wp2
    go_ret
    exact ⟨rfl, bstep H1.out h2⟩
/-- the box of a state that runs on -/
structure SB (w0 W : World) (g : Nat) (st : St) : Prop where
  c0 : W.cell? ⟨g, 0, none⟩ = some (.int .i64 (st.at_ : Int))
  f0 : W.frozen? ⟨g, 0, none⟩ = false
  f1 : W.frozen? ⟨g, 1, none⟩ = false
  lt : w0.heap.size ≤ g
  below : Below w0.heap.size w0 W
  row : ∃ B, W.cell? ⟨g, 1, none⟩ = some (.slice (some ⟨B, 0, none⟩) 32 32) ∧ StrAt W B 0 (regTexts st)
theorem SB.later {w0 W W' : World} {g : Nat} {st : St} (h : SB w0 W g st) (hb : Below W.heap.size W W') : SB w0 W' g st := by
  obtain ⟨B, h1, h2⟩ := h.row
  exact ⟨cell_keep hb h.c0, (hb.frozen (p := ⟨g, 0, none⟩) (cell_lt h.c0)).trans h.f0, (hb.frozen (p := ⟨g, 1, none⟩) (cell_lt h1)).trans h.f1, h.lt, bstep h.below hb, B, cell_keep hb h1, h2.below hb⟩
theorem SB.put {w0 W : World} {g B : Nat} {s st : St} (h : SB w0 W g s) (hr : StrAt W B 0 (regTexts st)) (hl : 0 < (regTexts st).length) : SB w0 ((W.setCell ⟨g, 0, none⟩ (.int .i64 (st.at_ : Int))).setCell ⟨g, 1, none⟩ (.slice (some ⟨B, 0, none⟩) 32 32)) g st := by
  have hne : g ≠ B := by
    rintro rfl
    have := hr.2 0 hl
    rw [Nat.add_zero, h.c0] at this
    cases this
  have e1 : ∀ o j, (⟨g, o, none⟩ : Addr) ≠ ⟨B, 0 + j, none⟩ := fun o j e => by injection e with e1; exact hne e1
  obtain ⟨B0, c1, _⟩ := h.row
  refine ⟨?_, by rw [World.frozen?_setCell, World.frozen?_setCell]; exact h.f0, by rw [World.frozen?_setCell, World.frozen?_setCell]; exact h.f1, h.lt, (h.below.setCell (p := ⟨g, 0, none⟩) h.lt _).setCell (p := ⟨g, 1, none⟩) h.lt _, B, ?_, by simpa using hr.1, fun j hj => by rw [set_other (e1 _ _), set_other (e1 _ _)]; exact hr.2 j hj⟩
  · rw [set_other (addr_ne (by omega)), set_same h.c0]
  · refine set_same (u := .slice (some ⟨B0, 0, none⟩) 32 32) ?_
    rw [set_other (addr_ne (by omega)), c1]
/-- Step of a state that a run has come to -/
theorem Step_st (ps : List Ins) (s : St) (hv : PValid ps) (hok : s.ok ps.length) (hne : s.at_ ≠ ps.length) (W : World) (v : Value) (B c : Nat) (hA : ArgP W v ps) (hS : StrAt W B 0 (regTexts s)) :
    Calls Try.prog 16 #[v, .agg #[.int .i64 (s.at_ : Int), .slice (some ⟨B, 0, none⟩) 32 c]] W (SOut W ps s.at_ (regTexts s)) := by
  have hlt : s.at_ < ps.length := by have := hok.1; omega
  rcases hA with ⟨rfl, _⟩ | ⟨_, b, off, cap, rfl, hP⟩
  · simp at hlt
  · exact Step_main W b off cap B 0 c s.at_ ps (regTexts s) hP hv hS (by simp [regTexts, hok.2.1]) (fun l hl => by
      simp only [regTexts, List.mem_map] at hl
      obtain ⟨t, ht, rfl⟩ := hl
      exact vld_tx (hok.2.2 t ht)) hlt
end Go.Proofs.Ytpiahjbpidcjpaa
