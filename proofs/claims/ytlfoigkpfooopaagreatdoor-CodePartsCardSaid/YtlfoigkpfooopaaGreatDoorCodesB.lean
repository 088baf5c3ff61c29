/- The reference's CodeOf of any right instruction, Code. By an AI agent. -/
import Derived.Test.YtlfoigkpfooopaaGreatDoorCodes
import Derived.Test.YtlfoigkpfooopaaGreatDoorItems
namespace Go.Proofs.YtlfoigkpfooopaaGreatDoor
open Go.RowKit Pl

theorem right_cases {x : Ins} {i n : Int} (h : right x i n = true) : reg x.a = true ∧
    ((x.op = 0 ∧ x.b = 0 ∧ x.c = 0 ∧ vld x.tree = true) ∨ ((x.op = 1 ∨ x.op = 3 ∨ x.op = 4) ∧ reg x.b = true ∧ x.c = 0 ∧ x.tree = []) ∨
     (x.op = 2 ∧ reg x.b = true ∧ reg x.c = true ∧ x.tree = []) ∨ (x.op = 5 ∧ x.c = 0 ∧ x.tree = [] ∧ -i ≤ x.b ∧ x.b ≤ n - i)) := by
  obtain ⟨op, a, b, c, t⟩ := x
  by_cases h0 : op = 0
  · subst h0; simp_all [right]
  by_cases h2 : op = 2
  · subst h2; simp_all [right]
  by_cases h1 : op = 1
  · subst h1; simp_all [right]
  by_cases h3 : op = 3
  · subst h3; simp_all [right]
  by_cases h4 : op = 4
  · subst h4; simp_all [right]
  by_cases h5 : op = 5
  · subst h5; simp_all [right]
  · simp [right, h0, h1, h2, h3, h4, h5] at h
theorem reg_nat {n : Int} (h : reg n = true) : ∃ k : Nat, n = (k : Int) ∧ k < 32 := by
  obtain ⟨h1, h2⟩ := reg_true h
  exact ⟨n.toNat, by omega, by omega⟩

theorem CodeOf_any (x : Ins) (i n : Int) (w : World) (hr : right x i n = true) (hi0 : 0 ≤ i) (hi1 : i ≤ 4000) (hn1 : n ≤ 4000) :
    Calls Tryz.prog 27 #[x.agg] w fun e w' => e = .returned (.string (S (codeOf x))) ∧ Below w.heap.size w w' := by
  obtain ⟨ha, hc⟩ := right_cases hr
  obtain ⟨a, hra, hla⟩ := reg_nat ha
  obtain ⟨op, a0, b, c, t⟩ := x
  simp only at hra hc; subst hra
  rcases hc with ⟨rfl, rfl, rfl, hv⟩ | ⟨ho, hb, rfl, rfl⟩ | ⟨rfl, hb, hc, rfl⟩ | ⟨rfl, rfl, rfl, hb1, hb2⟩
  · exact CodeOf_set a 0 0 t w (by omega) (vld_iff.1 hv).1
  · obtain ⟨b, rfl, hlb⟩ := reg_nat hb
    rcases ho with rfl | rfl | rfl
    · exact CodeOf_move a b 0 [] w (by omega) (by omega)
    · exact CodeOf_head a b 0 [] w (by omega) (by omega)
    · exact CodeOf_tail a b 0 [] w (by omega) (by omega)
  · obtain ⟨b, rfl, hlb⟩ := reg_nat hb
    obtain ⟨c, rfl, hlc⟩ := reg_nat hc
    exact CodeOf_cons a b c [] w (by omega) (by omega) (by omega)
  · by_cases h : b < 0
    · obtain ⟨k, hk⟩ : ∃ k : Nat, b = -(k : Int) := ⟨(-b).toNat, by omega⟩
      subst hk
      have := CodeOf_back a k 0 [] w (by omega) (by omega) (by omega)
      have hk0 : 0 < k := by omega
      simpa [codeOf, body, hk0, Ins.agg] using this
    · obtain ⟨k, hk⟩ : ∃ k : Nat, b = (k : Int) := ⟨b.toNat, by omega⟩
      subst hk
      have := CodeOf_fore a k 0 [] w (by omega) (by omega)
      simpa [codeOf, body, h, Ins.agg] using this
theorem CO_step (x : Ins) (k n : Nat) (hk : k ≤ 4000) (hn : n ≤ 4000) (hv : right x k n = true) (W : World) :
    Calls Tryz.prog 27 #[.agg #[.int .i64 x.op, .int .i64 x.a, .int .i64 x.b, .int .i64 x.c, .string (S x.tree)]] W fun e w' => e = .returned (.string (S (codeOf x))) ∧ Below W.heap.size W w' :=
  CodeOf_any x k n W hv (by omega) (by omega) (by omega)

theorem num_le {n k : Nat} (h : n ≤ k) : (num n).length ≤ 2 * k + 1 := by rw [num_len]; omega
theorem codeOf_len {x : Ins} {i n : Int} (h : right x i n = true) (hi0 : 0 ≤ i) (hi : i ≤ 4000) (hn : n ≤ 4000) : (codeOf x).length ≤ 9000 + x.tree.length := by
  obtain ⟨ha, hc⟩ := right_cases h
  have h1 := num_le (n := x.a.toNat) (k := 32) (by have := (reg_true ha).2; omega)
  unfold codeOf body
  rcases hc with ⟨ho, _⟩ | ⟨ho, hb, _⟩ | ⟨ho, hb, hc, _⟩ | ⟨ho, _, _, hb1, hb2⟩
  · have h2 := num_le (n := x.op.toNat) (k := 6) (by omega)
    rw [if_pos ho]; simp only [pr_len]; omega
  · have h2 := num_le (n := x.op.toNat) (k := 6) (by omega)
    have h3 := num_le (n := x.b.toNat) (k := 32) (by have := (reg_true hb).2; omega)
    rw [if_neg (by omega), if_neg (by omega), if_neg (by omega)]; simp only [pr_len]; omega
  · have h2 := num_le (n := x.op.toNat) (k := 6) (by omega)
    have h3 := num_le (n := x.b.toNat) (k := 32) (by have := (reg_true hb).2; omega)
    have h4 := num_le (n := x.c.toNat) (k := 32) (by have := (reg_true hc).2; omega)
    rw [if_neg (by omega), if_pos ho]; simp only [pr_len]; omega
  · have h2 := num_le (n := x.op.toNat) (k := 6) (by omega)
    have h3 := num_le (n := (-x.b).toNat) (k := 4000) (by omega)
    have h4 := num_le (n := x.b.toNat) (k := 4000) (by omega)
    rw [if_neg (by omega), if_neg (by omega), if_pos ho]
    split <;> simp only [pr_len, List.length_cons, List.length_nil] <;> omega
theorem enc_map_len {f : Ins → List UInt8} : ∀ {ps : List Ins}, (∀ x ∈ ps, (f x).length ≤ 9000 + x.tree.length) → (enc (ps.map f)).length ≤ 1 + ps.length * 9001 + trees ps := by
  intro ps
  induction ps with
  | nil => intro _; simp [enc]
  | cons x ps ih =>
    intro h
    have h1 := h x (by simp)
    have h2 := ih (fun y hy => h y (by simp [hy]))
    have h3 : trees (x :: ps) = x.tree.length + trees ps := by simp [trees]
    rw [List.map_cons, h3]
    simp only [enc, List.length_cons, List.length_append]
    omega
theorem AllR.mem {ps : List Ins} (h : AllR ps) (hm : ps.length ≤ 4000) : ∀ x ∈ ps, (codeOf x).length ≤ 9000 + x.tree.length := by
  intro x hx
  obtain ⟨k, hk, rfl⟩ := List.mem_iff_getElem.1 hx
  exact codeOf_len (h k _ (List.getElem?_eq_getElem hk)) (by omega) (by omega) (by omega)
def codes (ps : List Ins) : List (List UInt8) := ps.map codeOf
theorem codes_len (ps : List Ins) : (codes ps).length = ps.length := by simp [codes]
theorem codes_take {ps : List Ins} {k : Nat} {x : Ins} (h : ps[k]? = some x) : codes (ps.take (k + 1)) = codes (ps.take k) ++ [codeOf x] := by
  obtain ⟨hk, rfl⟩ := List.getElem?_eq_some_iff.1 h
  unfold codes
  rw [List.take_succ_eq_append_getElem hk, List.map_append]; rfl

set_option maxHeartbeats 1600000 in
set_option maxRecDepth 100000 in
theorem Code_some (w : World) (b off cap : Nat) (ps : List Ins) (hc : ProgAt w b off ps) (hp : 0 < ps.length) (hm : ps.length ≤ 4000) (hr : AllR ps) (ht : trees ps ≤ 2000000) :
    Calls Tryz.prog 17 #[.slice (some ⟨b, off, none⟩) ps.length cap] w fun e w' => e = .returned (.string (S (enc (codes ps)))) ∧ Below w.heap.size w w' := by
  obtain ⟨i0, hi, hz0, hz1, hz2⟩ := info_parts Tryz.infoStr
  have HR : Hid (∀ (k : Nat) (x : Ins), ps[k]? = some x → right x k ps.length = true) := Lib.hid hr
  have hsz : (enc (codes ps)).length ≤ 100000000 := by
    have := enc_map_len (hr.mem hm)
    show (enc (ps.map codeOf)).length ≤ _
    omega
  have HS := Lib.hid hsz
  have HCL := Lib.hid (codes_len ps)
  generalize hnn : ps.length = n at *
  have HN := Lib.hid hnn; have HC := Lib.hid hc
  clear hc ht hr hnn hsz
  go_enter Tryz.func17, Tryz.ntmps17
  go_wp2
  go_loopw [3, 4] (fun v i wr => ∃ k : Nat, k ≤ n ∧ i = .int .i64 k ∧ wr.ownsRow w.heap.size 9 1 v k (strsV (codes (ps.take k))) ∧ Below w.heap.size w wr) (fun _ i _ => n - (intOf i).toNat)
  case atStart => exact ⟨0, Nat.zero_le _, rfl, World.ownsRow_nil _ _ _ _, Below.refl _ _⟩
  case round =>
    obtain ⟨k, hk, rfl, hown, hb⟩ := hrel
    have hsz := hb.size
    by_cases hlt : k < n
    · obtain ⟨x, hx⟩ := get_at (ps := ps) (k := k) (by rw [HN.out]; exact hlt)
      obtain ⟨c0, c1, c2, c3, c4⟩ := (HC.out.below hb).2 k x hx
      have HQ := Lib.hid (CO_step x k n (by omega) hm (HR.out k x hx))
      have HT := Lib.hid (codes_take hx)
      clear hx
      go_wp2_with fail
      refine (HQ.out _).mono ?_
      rintro e w2 ⟨rfl, hb2⟩
      have hown2 := own_keep hown hb2
      have hb3 := hb.trans (hb2.mono hsz)
      have hsz3 := hb3.size
      clear hown
      go_wp2_with (at_builtin; refine wpList_append_own _ rfl _ _ 40 rfl w.heap.size 9 i0 (.string ⟨#[]⟩) 1 16 Tryz.underlying40 hi hz0 hz1 hz2 rfl (by decide) _ _ _ rfl (hown2.alloc _) ⟨w2.heap.size, 0, none⟩ 1 1 [.string (S (codeOf x))] rfl rfl ?c1 ?c2 ?c3 ?c4 ?c5 ?_)
      case c1 =>
        intro t u ht
        match t, ht with
        | 0, ht => simp at ht; subst ht; simp [Addr.add]
      case c2 => intro u hu; simp at hu; subst hu; rfl
      case c3 => unfold maxLen; omega
      case c4 => omega
      case c5 => simp; omega
      intro v' w3 hown' hgrow _
      have hb4 := app_below hb3 hsz3 hown2 hgrow
      have ho : w3.ownsRow w.heap.size 9 1 v' (k + 1) (strsV (codes (ps.take (k + 1)))) := by
        rw [HT.out, strsV_snoc]; exact hown'
      have HO := Lib.hid ho
      clear ho hown' hgrow hown2 hb hb3
      go_wp2
      go_roundw
      case rel => exact ⟨k + 1, by omega, by go_num, HO.out, hb4⟩
      case measure => simp [intOf]; omega
    · have ho : wr.ownsRow w.heap.size 9 1 u3 k (strsV (codes ps)) := by
        have := hown
        rw [List.take_of_length_le (by have := HN.out; omega)] at this
        exact this
      obtain ⟨g, cap', rfl, hgn, hg0, hst⟩ := own_strs ho (by omega)
      have HL := Lib.hid (rList_big wr g 0 cap' (codes ps) hst (by rw [HCL.out]; omega) HS.out)
      clear hown ho hst
      go_wp2_with fail
      refine HL.out.mono ?_
      rintro e w2 ⟨rfl, h2⟩
      go_wp2_with fail
      go_ret
      exact ⟨rfl, hb.trans (h2.mono hsz)⟩
set_option maxHeartbeats 800000 in
set_option maxRecDepth 100000 in
theorem Code_none (w : World) (a : Option Addr) (cap : Nat) :
    Calls Tryz.prog 17 #[.slice a 0 cap] w fun e w' => e = .returned (.string (S [48])) ∧ Below w.heap.size w w' := by
  go_enter Tryz.func17, Tryz.ntmps17
  go_wp2
  go_loop [3, 4] (fun v i => v = .slice none 0 0 ∧ i = .int .i64 0) (fun _ _ => 0)
  case atStart => exact ⟨rfl, rfl⟩
  case round =>
    obtain ⟨rfl, rfl⟩ := hrel
    go_wp2_with fail
    refine (rList_none _ _ _).mono ?_
    rintro e w2 ⟨rfl, h2⟩
    go_wp2_with fail
    go_ret
    exact ⟨rfl, h2⟩
theorem Code_arg (w : World) (v : Value) (ps : List Ins) (h : ArgP w v ps) (hv : PValid ps) :
    Calls Tryz.prog 17 #[v] w fun e w' => e = .returned (.string (S (enc (codes ps)))) ∧ Below w.heap.size w w' := by
  rcases h with ⟨rfl, h⟩ | ⟨h0, b, off, cap, rfl, hc⟩
  · obtain ⟨a, cap, rfl⟩ := empty_arg h
    exact Code_none w a cap
  · exact Code_some w b off cap ps hc h0 hv.1 hv.2.2 hv.2.1
end Go.Proofs.YtlfoigkpfooopaaGreatDoor
