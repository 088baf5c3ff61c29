/- The contracts of Same and List of the reference. By an AI agent. -/
import Derived.Test.YtlfoigkpfooopaaGreatDoorNumber
import Derived.Deep.RegionHeld3
import Derived.Deep.AppendLies
import Derived.Lib.AppendStr
namespace Go.Proofs.YtlfoigkpfooopaaGreatDoor
open Go.RowKit Pl

set_option maxHeartbeats 800000 in
set_option maxRecDepth 100000 in
theorem Same_none (a b : Option Addr) (c d : Nat) (w : World) :
    Calls Tryz.prog 26 #[.slice a 0 c, .slice b 0 d] w fun e w' => e = .returned (.bool true) ∧ w = w' := by
  go_enter Tryz.func26, Tryz.ntmps26
  go_wp2
  go_loop [5] (fun i => i = .int .i64 0) (fun _ => 0)
  case atStart => rfl
  case round =>
    subst hrel
    go_wp2
    go_ret
    exact ⟨rfl, rfl⟩
theorem same_str (l : List UInt8) : (!(l == l)) = false := by simp
set_option maxHeartbeats 800000 in
set_option maxRecDepth 100000 in
theorem Same_yes (w : World) (b off cap b2 off2 cap2 : Nat) (ls : List (List UInt8)) (h1 : StrAt w b off ls) (h2 : StrAt w b2 off2 ls) (hm : ls.length ≤ 281474976710656) :
    Calls Tryz.prog 26 #[.slice (some ⟨b, off, none⟩) ls.length cap, .slice (some ⟨b2, off2, none⟩) ls.length cap2] w fun e w' => e = .returned (.bool true) ∧ Below w.heap.size w w' := by
  generalize hnn : ls.length = n at *
  have HN := Lib.hid hnn; clear hnn
  have H1 := Lib.hid h1; have H2 := Lib.hid h2; clear h1 h2
  go_enter Tryz.func26, Tryz.ntmps26
  go_wp2
  go_loopw [5] (fun i wr => ∃ k : Nat, k ≤ n ∧ i = .int .i64 k ∧ ∃ q, wr = w.drewN q) (fun i _ => n - (intOf i).toNat)
  case atStart => exact ⟨0, Nat.zero_le _, rfl, 0, rfl⟩
  case round =>
    obtain ⟨k, hk, rfl, q, rfl⟩ := hrel
    by_cases hlt : k < n
    · have c1 := H1.out.2 k (by rw [HN.out]; exact hlt)
      have c2 := H2.out.2 k (by rw [HN.out]; exact hlt)
      generalize ls.getD k [] = x at *
      have hx := same_str x
      have i0 : (0 : Int) ≤ (k : Int) := by omega
      have i1 : (k : Int) < (n : Int) := by omega
      go_wp2_with fail
      go_quiet (fail)
      go_wp2
      go_roundw
      case rel => exact ⟨k + 1, by omega, by go_num, _, rfl⟩
      case measure => simp [intOf]; omega
    · go_wp2
      go_ret
      exact ⟨rfl, bdrewN (Below.refl _ _) _⟩

/-- 'append(v, s...)', s a string, at a step of a region that draws -/
theorem step_append_own_string {P : Program} {ops : Array Oper} {o : Oper} {a : Act} {w : World} {K : Act → World → Prop} {Q : Exit → Act → World → Prop} {E : Prop} (hgd : o.guard = none) (sl x : Operand) (t u : TypeId)
    (ho : o.op = .call { callee := .builtin .append, args := #[sl, x], argTypes := #[t, u] })
    (base : Nat) (e : TypeId) (i : TypeInfo) (ht : P.underlying t = some (.slice e)) (hu : P.underlying u = some .string) (hi : P.info? e = some i) (hz : i.zero = some (.int .u8 0))
    (hsize : i.size = 1) (hby : i.bytes = 1)
    (v : Value) (n : Nat) (xs : List Value) (hs : a.eval sl = v) (hown : w.ownsRow base e 1 v n xs) (s : ByteArray) (hx : a.eval x = .string s)
    (h63 : n + s.size ≤ maxLen) (hbytes : n + s.size ≤ 140737488355328) (hbase : base ≤ w.heap.size)
    (h : ∀ v' w', w'.ownsRow base e 1 v' (n + s.size) (xs ++ Lib.strCells s) → w.grownBy w' v.ownBlock → K (a.put o.dst v') w') :
    if Region.wanted o (yielded ops a.tmps) = true then Oper.wp P o a w K Q else E := by
  have hw : Region.wanted o (yielded ops a.tmps) = true := by simp [Region.wanted, hgd]
  rw [if_pos hw]
  obtain ⟨v', w', hr, h2, h3, _⟩ := Lib.run_append_own_string (P := P) (w := w) base t u o.type e i ht hu hi hz hsize hby v n xs hown s h63 hbytes hbase
  unfold Oper.wp execOp
  simp only [ho, resolve, invoke, builtin, Sem.run_bind, Sem.run_pure, Result.andThen_ok, List.map_toArray, List.map_cons, List.map_nil, hs, hx, hr]
  exact h v' w' h2 h3

set_option maxHeartbeats 3200000 in
set_option maxRecDepth 100000 in
theorem rList_big (w : World) (b off cap : Nat) (ls : List (List UInt8)) (hc : StrAt w b off ls) (hm : ls.length ≤ 281474976710656) (hz : (enc ls).length ≤ 100000000) :
    Calls Tryz.prog 36 #[.slice (some ⟨b, off, none⟩) ls.length cap] w fun e w' => e = .returned (.string (S (enc ls))) ∧ Below w.heap.size w w' := by
  obtain ⟨i0, hi, hz0, hz1, hz2⟩ := info_parts Tryz.infoByte
  generalize hnn : ls.length = n at *
  have HN := Lib.hid hnn; clear hnn
  have HC := Lib.hid hc; have HZ := Lib.hid hz; clear hc hz
  go_enter Tryz.func36, Tryz.ntmps36
  go_wp2
  go_loopw [3, 4] (fun v i wr => ∃ k : Nat, k ≤ n ∧ i = .int .i64 k ∧ wr.ownsRow w.heap.size 5 1 v (encTo ls k).length (Lib.byteCells (encTo ls k)) ∧ Below w.heap.size w wr) (fun _ i _ => n - (intOf i).toNat)
  case atStart => exact ⟨0, Nat.zero_le _, rfl, World.ownsRow_nil _ _ _ _, Below.refl _ _⟩
  case round =>
    obtain ⟨k, hk, rfl, hown, hbw⟩ := hrel
    have hsz := hbw.size
    by_cases hlt : k < n
    · have hcell := (HC.out.below hbw).2 k (by rw [HN.out]; exact hlt)
      have hbb := Nat.lt_of_lt_of_le HC.out.1 (Nat.le_refl _)
      have hst := Lib.hid (encTo_succ ls k (by rw [HN.out]; exact hlt))
      have htop := Nat.le_trans (encTo_le ls (k + 1)) HZ.out
      have hst2 := encTo_len ls k (by rw [HN.out]; exact hlt)
      have ht2 : (encTo ls k).length + (1 + (ls.getD k []).length) + 1 ≤ 100000000 := by omega
      clear htop hst2
      generalize ls.getD k [] = x at *
      generalize encTo ls k = l at *
      have i0' : (0 : Int) ≤ (k : Int) := by omega
      have i1 : (k : Int) < (n : Int) := by omega
      go_wp2_with fail
      have hne : ∀ g, Value.ownBlock u3 = some g → some b ≠ some g := fun g h e => by have := (hown.lt g h).1; have := Option.some.inj e; omega
      have hbr : b < wr.heap.size := Nat.lt_of_lt_of_le hbb hsz
      go_region_held3 (fun w' => w'.cell? ⟨b, off + k, none⟩ = some (.string (S x)))
        (first
          | go_keep
          | (rw [hgrow2.cell_far _ (by have h8 := hgrow.size; simp at h8 ⊢; omega) (by intro e; have h8 := (hown1.lt gg rfl).1; have h9 : b = gg := Option.some.inj e; omega)]; assumption)
          | (rw [hgrow.cell_far _ (by simp; omega) (by intro e; exact hne _ e.symm rfl)]; assumption))
        (first
          | (refine step_append_lies _ (by rfl) _ _ _ (by rfl) w.heap.size 5 i0 _ 1 1 Tryz.underlying54 hi hz0 hz1 hz2 rfl (by omega) _ _ _ (by rfl) ((hown.alloc _).drew)
              ⟨wr.heap.size, 0, none⟩ 1 1 [.int .u8 49] (by rfl) (by rfl) (World.news_of_block (cs := #[.int .u8 49]) (t := 5) (fr := (0, 0)) (heap_alloc_new wr _)) (by simp [Value.oneCell'])
              (by omega) (by unfold maxLen; omega) (by omega) (by simp; omega) (wr.heap.size + 1) (by simp) ?_; intro gg cap1 w1 hown1 hgrow hat hlt1)
          | (refine step_append_own_string (by rfl) _ _ _ _ (by rfl) w.heap.size 5 i0 Tryz.underlying54 Tryz.underlying9 hi hz0 hz1 hz2 _ _ _ (by rfl) (by exact hown1) (S x) (by rfl) (by rw [S_size]; unfold maxLen; omega) (by rw [S_size]; omega) (by have h8 := hgrow.size; simp at h8 ⊢; omega) ?_; intro v2 w2 hown2 hgrow2))
      have hb3 : Below w.heap.size w w1 := (hbw.alloc hsz _).drew.grown hgrow (by simp; omega) (fun g h => (hown.lt g h).1)
      have hgrow3 : w1.grownBy w2 (Value.slice (some ⟨gg, 0, none⟩) (l.length + 1) cap1).ownBlock := hgrow2
      have hb4 : Below w.heap.size w w2 := hb3.grown hgrow3 (by have h8 := hgrow.size; simp at h8 ⊢; omega) (fun g h => (hown1.lt g h).1)
      have ho : w2.ownsRow w.heap.size 5 1 v2 (encTo ls (k + 1)).length (Lib.byteCells (encTo ls (k + 1))) := by
        have h9 := hown2
        rw [S_size] at h9
        have e1 : (l ++ [49] ++ x).length = l.length + 1 + x.length := by simp; omega
        have e2 : Lib.byteCells (l ++ [49] ++ x) = Lib.byteCells l ++ [.int .u8 49] ++ Lib.strCells (S x) := by rw [Lib.byteCells_append, Lib.byteCells_append]; rfl
        rw [hst.out, e1, e2]
        exact h9
      have HO := Lib.hid ho
      clear hgrow hgrow2 hgrow3 hown hown1 hown2 hb3 ho
      go_wp2
      go_roundw
      case rel => exact ⟨k + 1, by omega, by go_num, HO.out, hb4⟩
      case measure => simp [intOf]; omega
    · have hE := encTo_out ls (k := k) (by rw [HN.out]; omega)
      have hF := enc_all ls
      rw [← hE] at hF
      have hz' := encTo_le ls k
      rw [hF] at hz'
      have hZ2 := HZ.out
      rw [hF, List.length_append] at hZ2
      simp only [List.length_cons, List.length_nil] at hZ2
      have HF := Lib.hid hF
      clear hE hz' hF
      generalize encTo ls k = l at *
      go_wp2_with (at_builtin; refine wpList_append_own _ rfl _ _ 54 rfl w.heap.size 5 i0 (.int .u8 0) 1 1 Tryz.underlying54 hi hz0 hz1 hz2 rfl (by decide) _ _ _ rfl (hown.alloc _) ⟨wr.heap.size, 0, none⟩ 1 1 [.int .u8 48] rfl rfl ?d1 ?d2 ?d3 ?d4 ?d5 ?_)
      case d1 =>
        intro t u ht
        match t, ht with
        | 0, ht => simp at ht; subst ht; simp [Addr.add]
      case d2 => intro u hu; simp at hu; subst hu; rfl
      case d3 => unfold maxLen; omega
      case d4 => omega
      case d5 => simp; omega
      intro v' w1 hown' hgrow _
      have hb1 := app_below hbw hsz hown hgrow
      have ho1 : w1.ownsRow w.heap.size 5 1 v' (l.length + 1) (Lib.byteCells (l ++ [48])) := by
        rw [Lib.byteCells_append]; exact hown'
      clear hown' hgrow hown hbw
      obtain ⟨g, cap, rfl, hn, hcell⟩ := own_bytes ho1 (by omega)
      have hcv := run_convert_bytes_back (P := Tryz.prog) w1 54 9 5 ⟨g, 0, none⟩ cap (l ++ [48]) Tryz.underlying54 Tryz.underlying5 Tryz.underlying9 hcell
      clear hn ho1 hcell
      generalize hL : l ++ [48] = q at *
      clear hL
      go_wp2
      go_ret
      exact ⟨ret_str (by rw [HF.out]), hb1⟩
theorem rList_yes (w : World) (b off cap : Nat) (ls : List (List UInt8)) (hc : StrAt w b off ls) (hm : ls.length ≤ 281474976710656) (hz : (enc ls).length ≤ 2000000) :
    Calls Tryz.prog 36 #[.slice (some ⟨b, off, none⟩) ls.length cap] w fun e w' => e = .returned (.string (S (enc ls))) ∧ Below w.heap.size w w' :=
  rList_big w b off cap ls hc hm (by omega)

set_option maxHeartbeats 800000 in
set_option maxRecDepth 100000 in
theorem rList_none (w : World) (a : Option Addr) (cap : Nat) :
    Calls Tryz.prog 36 #[.slice a 0 cap] w fun e w' => e = .returned (.string ⟨#[48]⟩) ∧ Below w.heap.size w w' := by
  obtain ⟨i0, hi, hz0, hz1, hz2⟩ := info_parts Tryz.infoByte
  go_enter Tryz.func36, Tryz.ntmps36
  go_wp2
  go_loop [3, 4] (fun v i => w.ownsRow w.heap.size 5 1 v 0 [] ∧ i = .int .i64 0) (fun _ _ => 0)
  case atStart => exact ⟨World.ownsRow_nil w w.heap.size 5 1, rfl⟩
  case round =>
    obtain ⟨hown, rfl⟩ := hrel
    go_wp2_with (at_builtin; refine wpList_append_own _ rfl _ _ 54 rfl w.heap.size 5 i0 (.int .u8 0) 1 1 Tryz.underlying54 hi hz0 hz1 hz2 rfl (by decide) _ _ _ rfl (hown.alloc _) ⟨w.heap.size, 0, none⟩ 1 1 [.int .u8 48] rfl rfl ?d1 ?d2 ?d3 ?d4 ?d5 ?_)
    case d2 => rfl
    case d3 => unfold maxLen; omega
    intro v' w1 hown' hgrow _
    have hb1 := app_below (Below.refl w.heap.size w) (Nat.le_refl _) hown hgrow
    have ho1 : w1.ownsRow w.heap.size 5 1 v' 1 (Lib.byteCells [48]) := hown'
    clear hown' hgrow hown
    obtain ⟨g, cap, rfl, hn, hcell⟩ := own_bytes ho1 (by omega)
    have hcv : (convert 54 9 (.slice (some ⟨g, 0, none⟩) 1 cap)).run Tryz.prog w1 = .ok (.string ⟨#[48]⟩) w1 := run_convert_bytes_back (P := Tryz.prog) w1 54 9 5 ⟨g, 0, none⟩ cap [48] Tryz.underlying54 Tryz.underlying5 Tryz.underlying9 hcell
    clear hn ho1 hcell
    go_wp2
    go_ret
    exact ⟨rfl, hb1⟩
end Go.Proofs.YtlfoigkpfooopaaGreatDoor
