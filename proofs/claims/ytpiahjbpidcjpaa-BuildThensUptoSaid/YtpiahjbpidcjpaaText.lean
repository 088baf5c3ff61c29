/- The reference's Text. By an AI agent. -/
import Derived.Test.YtpiahjbpidcjpaaTextOf
namespace Go.Proofs.Ytpiahjbpidcjpaa
open Go.RowKit Pl

theorem wpList_app_str {P : Program} {w : World} {ops : Array Oper} {rest : List Oper} {o : Oper} {a : Act} {Q : Exit → Act → World → Prop} (hgd : o.guard = none) (sl x : Operand) (t u : TypeId)
    (ho : o.op = .call { callee := .builtin .append, args := #[sl, x], argTypes := #[t, u] })
    (base : Nat) (e : TypeId) (i : TypeInfo) (ht : P.underlying t = some (.slice e)) (hu : P.underlying u = some .string) (hi : P.info? e = some i) (hz : i.zero = some (.int .u8 0))
    (hsize : i.size = 1) (hby : i.bytes = 1)
    (v : Value) (n : Nat) (xs : List Value) (hs : a.eval sl = v) (hown : w.ownsRow base e 1 v n xs) (s : ByteArray) (hx : a.eval x = .string s)
    (h63 : n + s.size ≤ maxLen) (hbytes : n + s.size ≤ 140737488355328) (hbase : base ≤ w.heap.size)
    (h : ∀ v' w', w'.ownsRow base e 1 v' (n + s.size) (xs ++ Lib.strCells s) → w.grownBy w' v.ownBlock → wpList P ops Q rest (a.put o.dst v') w') :
    wpList P ops Q (o :: rest) a w := by
  refine wpList_plain hgd fun K hK => ?_
  obtain ⟨v', w', hr, h2, h3, _⟩ := Lib.run_append_own_string (P := P) (w := w) base t u o.type e i ht hu hi hz hsize hby v n xs hown s h63 hbytes hbase
  unfold Oper.wp execOp
  simp only [ho, resolve, invoke, builtin, Sem.run_bind, Sem.run_pure, Result.andThen_ok, List.map_toArray, List.map_cons, List.map_nil, hs, hx, hr]
  exact hK _ _ (h v' w' h2 h3)
theorem app_below2 {B : Nat} {w wr w1 : World} {e : TypeId} {size : Nat} {v : Value} {n : Nat} {xs : List Value} (hnx : Below B w wr) (hB : B ≤ wr.heap.size) (hown : wr.ownsRow B e size v n xs) (hgrow : wr.grownBy w1 v.ownBlock) : Below B w w1 :=
  hnx.grown hgrow hB (fun g h => (hown.lt g h).1)

/-- the text of the first k instructions -/
def txtTo (ps : List Ins) : Nat → List UInt8
  | 0 => []
  | k + 1 => match ps[k]? with
    | some x => txtTo ps k ++ (if 0 < k then [59, 32] else []) ++ textOf x
    | none => txtTo ps k
def txt (ps : List Ins) : List UInt8 := txtTo ps ps.length
theorem txtTo_succ {ps : List Ins} {k : Nat} {x : Ins} (h : ps[k]? = some x) : txtTo ps (k + 1) = txtTo ps k ++ (if 0 < k then [59, 32] else []) ++ textOf x := by
  simp [txtTo, h]
theorem txtTo_len {ps : List Ins} (hm : ps.length ≤ 4000) (hr : AllR ps) : ∀ k, (txtTo ps k).length ≤ k * 5002 + treesTo ps k := by
  intro k
  induction k with
  | zero => simp [txtTo]
  | succ k ih =>
    rcases Nat.lt_or_ge k ps.length with h | h
    · obtain ⟨x, hx⟩ := get_at h
      have h1 := textOf_len (hr k x hx) (by omega) (by omega) (by omega)
      rw [txtTo_succ hx, treesTo_succ hx]
      simp only [List.length_append]
      split <;> simp only [List.length_cons, List.length_nil] <;> omega
    · have h1 : ps[k]? = none := List.getElem?_eq_none h
      have h2 : treesTo ps (k + 1) = treesTo ps k := by rw [treesTo_all (by omega), treesTo_all h]
      have h3 : txtTo ps (k + 1) = txtTo ps k := by simp [txtTo, h1]
      rw [h2, h3]; exact Nat.le_trans ih (Nat.add_le_add_right (Nat.mul_le_mul_right _ (Nat.le_succ k)) _)
theorem textOf_pos (x : Ins) : 0 < (textOf x).length := by unfold textOf; simp only [List.length_append, List.length_cons]; omega

set_option maxHeartbeats 3200000 in
set_option maxRecDepth 100000 in
theorem Text_some (w : World) (b off cap : Nat) (ps : List Ins) (hc : ProgAt w b off ps) (hp : 0 < ps.length) (hm : ps.length ≤ 4000) (hr : AllR ps) (ht : trees ps ≤ 2000000) :
    Calls Try.prog 103 #[.slice (some ⟨b, off, none⟩) ps.length cap] w fun e w' => e = .returned (.string (S (txt ps))) ∧ Below w.heap.size w w' := by
  obtain ⟨i0, hi, hz0, hz1, hz2⟩ := info_parts Try.infoByte
  have HR : Hid (∀ (k : Nat) (x : Ins), ps[k]? = some x → right x k ps.length = true) := Lib.hid hr
  have HL : Hid (∀ k, k ≤ 4000 → (txtTo ps k).length ≤ 30000000) := Lib.hid (fun k hk => by
    have h1 := txtTo_len hm hr k
    have h2 := treesTo_top (ps := ps) k
    omega)
  have HTL : Hid (∀ (k : Nat) (x : Ins), ps[k]? = some x → (textOf x).length ≤ 3000000) := Lib.hid (fun k x hx => by
    have h1 := textOf_len (hr k x hx) (by omega) (by have := (List.getElem?_eq_some_iff.1 hx).1; omega) (by omega)
    have h2 := right_tree_len (hr k x hx)
    omega)
  have HTX : Hid (txtTo ps ps.length = txt ps) := Lib.hid rfl
  have HPOS : Hid (0 < (txt ps).length) := Lib.hid (by
    obtain ⟨k, hk⟩ : ∃ k, ps.length = k + 1 := ⟨ps.length - 1, by omega⟩
    obtain ⟨x, hx⟩ := get_at (ps := ps) (k := k) (by omega)
    unfold txt; rw [hk, txtTo_succ hx]
    have := textOf_pos x
    simp only [List.length_append]; omega)
  generalize hnn : ps.length = n at *
  have HN := Lib.hid hnn; have HC := Lib.hid hc
  clear hc ht hr hnn
  go_enter Try.func103, Try.ntmps103
  go_wp2
  go_loopw [3, 4] (fun v i wr => ∃ k : Nat, k ≤ n ∧ i = .int .i64 k ∧ wr.ownsRow w.heap.size 5 1 v (txtTo ps k).length (Lib.byteCells (txtTo ps k)) ∧ Below w.heap.size w wr) (fun _ i _ => n - (intOf i).toNat)
  case atStart => exact ⟨0, Nat.zero_le _, rfl, World.ownsRow_nil _ _ _ _, Below.refl _ _⟩
  case round =>
    obtain ⟨k, hk, rfl, hown, hb⟩ := hrel
    have hsz := hb.size
    have hlk := HL.out k (by omega)
    by_cases hlt : k < n
    · obtain ⟨x, hx⟩ := get_at (ps := ps) (k := k) (by rw [HN.out]; exact hlt)
      have HQ := Lib.hid (TO_step x k n (by omega) hm (HR.out k x hx))
      have hxl := HTL.out k x hx
      have HT := Lib.hid (txtTo_succ hx)
      have HXX := Lib.hid hx
      clear hx
      generalize textOf x = tx at *
      by_cases h0 : 0 < k
      · have HT2 : Hid (txtTo ps (k + 1) = txtTo ps k ++ [59, 32] ++ tx) := Lib.hid (by rw [HT.out, if_pos h0])
        clear HT
        generalize txtTo ps k = l at *
        have k0 : (0 : Int) < (k : Int) := by omega
        go_wp2_with (at_builtin; refine wpList_app_str rfl _ _ 158 9 rfl w.heap.size 5 i0 Try.underlying158 Try.underlying9 hi hz0 hz1 hz2 _ _ _ rfl hown ⟨#[59, 32]⟩ rfl ?c1 ?c2 hsz ?_)
        case c1 => have h2 : (⟨#[59, 32]⟩ : ByteArray).size = 2 := rfl; rw [h2]; unfold maxLen; omega
        case c2 => have h2 : (⟨#[59, 32]⟩ : ByteArray).size = 2 := rfl; rw [h2]; omega
        intro v1 w1 hown1 hgrow1
        have hb1 := app_below2 hb hsz hown hgrow1
        have hsz1 := hb1.size
        have hown1' : w1.ownsRow w.heap.size 5 1 v1 (l.length + 2) (Lib.byteCells (l ++ [59, 32])) := by
          rw [Lib.byteCells_append]; exact hown1
        obtain ⟨c0, c1, c2, c3, c4⟩ := (HC.out.below hb1).2 k x HXX.out
        clear hown hgrow1 hown1
        go_wp2_with fail
        refine (HQ.out _).mono ?_
        rintro e w2 ⟨rfl, h2⟩
        have hown2 := own_keep hown1' h2
        have hb2 := hb1.trans (h2.mono hsz1)
        have hsz2 := hb2.size
        go_wp2_with (at_builtin; refine wpList_app_str rfl _ _ 158 9 rfl w.heap.size 5 i0 Try.underlying158 Try.underlying9 hi hz0 hz1 hz2 _ _ _ rfl hown2 (S tx) rfl ?c1 ?c2 hsz2 ?_)
        case c1 => rw [S_size]; unfold maxLen; omega
        case c2 => rw [S_size]; omega
        intro v3 w3 hown3 hgrow3
        have hb3 := app_below2 hb2 hsz2 hown2 hgrow3
        have ho : w3.ownsRow w.heap.size 5 1 v3 (txtTo ps (k + 1)).length (Lib.byteCells (txtTo ps (k + 1))) := by
          have h9 := hown3
          rw [HT2.out, Lib.byteCells_append, List.length_append, List.length_append]
          exact h9
        have HO := Lib.hid ho
        clear ho hown3 hgrow3 hown2 hown1' hb hb1 hb2 c0 c1 c2 c3 c4
        go_wp2
        go_roundw
        case rel => exact ⟨k + 1, by omega, by go_num, HO.out, hb3⟩
        case measure => simp [intOf]; omega
      · have HT2 : Hid (txtTo ps (k + 1) = txtTo ps k ++ tx) := Lib.hid (by rw [HT.out, if_neg h0]; simp)
        clear HT
        generalize txtTo ps k = l at *
        have k0 : ¬ (0 : Int) < (k : Int) := by omega
        obtain ⟨c0, c1, c2, c3, c4⟩ := (HC.out.below hb).2 k x HXX.out
        go_wp2_with fail
        refine (HQ.out _).mono ?_
        rintro e w2 ⟨rfl, h2⟩
        have hown2 := own_keep hown h2
        have hb2 := hb.trans (h2.mono hsz)
        have hsz2 := hb2.size
        go_wp2_with (at_builtin; refine wpList_app_str rfl _ _ 158 9 rfl w.heap.size 5 i0 Try.underlying158 Try.underlying9 hi hz0 hz1 hz2 _ _ _ rfl hown2 (S tx) rfl ?c1 ?c2 hsz2 ?_)
        case c1 => rw [S_size]; unfold maxLen; omega
        case c2 => rw [S_size]; omega
        intro v3 w3 hown3 hgrow3
        have hb3 := app_below2 hb2 hsz2 hown2 hgrow3
        have ho : w3.ownsRow w.heap.size 5 1 v3 (txtTo ps (k + 1)).length (Lib.byteCells (txtTo ps (k + 1))) := by
          have h9 := hown3
          rw [HT2.out, Lib.byteCells_append, List.length_append]
          exact h9
        have HO := Lib.hid ho
        clear ho hown3 hgrow3 hown2 hown hb hb2 c0 c1 c2 c3 c4
        go_wp2
        go_roundw
        case rel => exact ⟨k + 1, by omega, by go_num, HO.out, hb3⟩
        case measure => simp [intOf]; omega
    · have hkn : k = n := by omega
      have hE : txtTo ps k = txt ps := by rw [← HTX.out, hkn]
      rw [hE] at hown
      have hp0 := HPOS.out
      obtain ⟨g, cap', rfl, hn, hcell⟩ := own_bytes hown hp0
      have hcv := run_convert_bytes_back (P := Try.prog) wr 158 9 5 ⟨g, 0, none⟩ cap' (txt ps) Try.underlying158 Try.underlying5 Try.underlying9 hcell
      clear hn hown hcell hE hkn hp0 hlk
      go_wp2
      go_ret
      exact ⟨rfl, hb⟩
set_option maxHeartbeats 800000 in
set_option maxRecDepth 100000 in
theorem Text_none (w : World) (a : Option Addr) (cap : Nat) :
    Calls Try.prog 103 #[.slice a 0 cap] w fun e w' => e = .returned (.string (S [])) ∧ Below w.heap.size w w' := by
  have hcv : (convert 158 9 (.slice none 0 0)).run Try.prog w = .ok (.string (S [])) w := by
    rw [run_convert_bytes_string w 158 9 5 none 0 0 Try.underlying158 Try.underlying5 Try.underlying9]
    rfl
  go_enter Try.func103, Try.ntmps103
  go_wp2
  go_loop [3, 4] (fun v i => v = .slice none 0 0 ∧ i = .int .i64 0) (fun _ _ => 0)
  case atStart => exact ⟨rfl, rfl⟩
  case round =>
    obtain ⟨rfl, rfl⟩ := hrel
    go_wp2_with fail
    go_ret
    exact ⟨rfl, Below.refl _ _⟩
theorem Text_arg (w : World) (v : Value) (ps : List Ins) (h : ArgP w v ps) (hv : PValid ps) :
    Calls Try.prog 103 #[v] w fun e w' => e = .returned (.string (S (txt ps))) ∧ Below w.heap.size w w' := by
  rcases h with ⟨rfl, h⟩ | ⟨h0, b, off, cap, rfl, hc⟩
  · obtain ⟨a, cap, rfl⟩ := empty_arg h
    exact Text_none w a cap
  · exact Text_some w b off cap ps hc h0 hv.1 hv.2.2 hv.2.1
end Go.Proofs.Ytpiahjbpidcjpaa
