/- narcissustop: grow. By an AI agent. -/
import Derived.Test.YtmhoacnbmbhcjabTopA
namespace Go.Proofs.Ytmhoacnbmbhcjab
open Go.RowKit Pl

/-- a text is a tree's -/
def isT (l : List UInt8) : Prop := ∃ t, tx t = l
theorem isT_vld {l : List UInt8} (h : isT l) (hl : l.length ≤ 2000000) : vld l = true := by obtain ⟨t, rfl⟩ := h; exact vld_tx hl
theorem txs_app (a b : List Tr) : txs (a ++ b) = txs a ++ txs b := by simp [txs]
theorem not_two {l : List UInt8} (hl : vld l = true) {i : Nat} (hi : i < l.length) (h9 : l[i] = 49) {ts : List Tr} (ht : txs ts = l.drop (i + 1)) : 2 ≤ ts.length := by
  obtain ⟨a, b, r, rfl⟩ := two_of hl hi h9 ht
  simp
/-- what grow returns -/
def GrowOut (l : List UInt8) (w : World) (e : Ending) (w' : World) : Prop :=
  Below w.heap.size w w' ∧ ((∃ t v, tx t = l ∧ e = .returned (.tuple #[v, .bool true]) ∧ NodeW 106 w' t v) ∨ (¬ isT l ∧ e = .returned (.tuple #[.pointer none, .bool false])))
theorem isT_not {L : List UInt8} {i : Nat} (hl : L.length ≤ 2000000) (hi : i < L.length) (h0 : L[i] ≠ 48) (h1 : L[i] ≠ 49) : ¬ isT L := fun h => by
  rcases vld_byte (isT_vld h hl) hi with e | e
  · exact h0 e
  · exact h1 e
theorem isT_few {L : List UInt8} {i : Nat} (hl : L.length ≤ 2000000) (hi : i < L.length) (h9 : L[i] = 49) {ts : List Tr} (ht : txs ts = L.drop (i + 1)) (h2 : ¬ 2 ≤ ts.length) : ¬ isT L := fun h => h2 (not_two (isT_vld h hl) hi h9 ht)
theorem byte_not {c d : UInt8} (h : c ≠ d) : (((c.toNat : Nat) : Int) == ((d.toNat : Nat) : Int)) = false := beq_eq_false_iff_ne.2 fun e => h (UInt8.toNat_inj.1 (by omega))
theorem isT_one {L : List UInt8} {ts : List Tr} (ht : txs ts = L) (h1 : ts.length ≠ 1) : ¬ isT L := by
  rintro ⟨t, rfl⟩
  exact h1 (txs_inj (b := [t]) (by rw [ht]; simp [txs]))
set_option maxHeartbeats 3200000 in
set_option maxRecDepth 100000 in
theorem grow_any (l : List UInt8) (most : Nat) (w : World) (hm : l.length ≤ most) (hm2 : most ≤ 2000000) :
    Calls Try.prog 41 #[.string (S l), .int .i64 (most : Int)] w (GrowOut l w) := by
  obtain ⟨i0, hi, hz0, hz1, hz2⟩ := info_parts Try.infoTCell
  have hsl : (S l).size = l.length := S_size l
  have HSL : Hid ((S l).data.toList = l) := Lib.hid (by simp)
  obtain ⟨s, hs⟩ : ∃ s, S l = s := ⟨_, rfl⟩
  rw [hs] at HSL hsl ⊢
  have hs0 : s.size ≤ most := by omega
  have HL := HSL.out
  subst HL
  have hlen : s.data.toList.length ≤ 2000000 := by rw [len_eq]; omega
  have HLN := Lib.hid hlen; clear hm hs HSL hsl hlen
  have hle : ¬ ((most : Int) < (s.size : Int)) := by omega
  go_enter Try.func41, Try.ntmps41
  go_wp2
  go_loopw [6, 7] (fun v i wr => ∃ (j : Nat) (ts : List Tr) (vs : List Value), j ≤ s.size ∧ i = .int .i64 ((j : Int) - 1) ∧ Hid (txs ts = s.data.toList.drop j) ∧ Hid (Stk (CellsAt 106 wr) ts vs) ∧ wr.ownsRow w.heap.size 65 1 v vs.length vs.reverse ∧ Below w.heap.size w wr) (fun _ i _ => (intOf i + 1).toNat)
  case atStart => exact ⟨s.size, [], [], Nat.le_refl _, rfl, Lib.hid (by rw [List.drop_of_length_le (by rw [len_eq]; exact Nat.le_refl _)]; rfl), Lib.hid trivial, World.ownsRow_nil _ _ _ _, Below.refl _ _⟩
  case round =>
    obtain ⟨j, ts, vs, hj, rfl, HT, HS, hown, hbw⟩ := hrel
    have hsz := hbw.size
    cases j with
    | zero =>
      have HL := HS.out.len
      by_cases h1 : ts.length = 1
      · obtain ⟨t, rfl⟩ : ∃ t, ts = [t] := by
          match ts, h1 with
          | [t], _ => exact ⟨t, rfl⟩
        obtain ⟨x, rfl, hx⟩ := HS.out.one
        obtain ⟨g, cap, rfl, _, _, _, _, hcell, _⟩ := own_top (ys := []) hown rfl
        have HX := Lib.hid hx
        have HT1 : Hid (tx t = s.data.toList) := Lib.hid (by have := HT.out; simpa [txs] using this)
        clear hx hown h1 HL
        rw [show ([] : List Value).length = 0 from rfl] at hcell ⊢
        go_wp2
        go_ret2
        exact ⟨hbw, .inl ⟨t, _, HT1.out, rfl, HX.out⟩⟩
      · have HN := Lib.hid (isT_one (by have := HT.out; simpa using this) h1)
        have hvl : vs.length ≠ 1 := by rw [HL]; exact h1
        have hn1 : ((vs.length : Int) == 1) = false := beq_eq_false_iff_ne.2 (by omega)
        have hn2 : ((vs.length : Int) != 1) = true := by simp [bne, hn1]
        obtain ⟨A, cap, hv⟩ : ∃ A cap, u6 = .slice A vs.length cap := by
          rcases hown.2 with ⟨rfl, h0⟩ | ⟨g, cap, cur, rfl, _⟩
          · exact ⟨_, _, by rw [h0]⟩
          · exact ⟨_, _, rfl⟩
        subst hv
        clear hown h1 HL hvl HS
        generalize vs.length = q at *
        go_wp2
        go_ret2
        exact ⟨hbw, .inr ⟨HN.out, rfl⟩⟩
    | succ k =>
      rw [show ((k + 1 : Nat) : Int) - 1 = (k : Int) from by omega]
      have hk : k < s.size := hj
      have hkl : k < s.data.toList.length := by rw [len_eq]; exact hk
      have hfew : vs.length ≤ 2000000 := by
        have h1 := HS.out.len
        have h2 := txs_len ts
        have h3 := congrArg List.length HT.out
        have h4 := HLN.out
        rw [List.length_drop] at h3
        omega
      by_cases hc : s.data.toList[k] = 48
      · have hc' : s[k] = 48 := hc
        have HT1 : Hid (txs (Tr.nil :: ts) = s.data.toList.drop k) := Lib.hid (by rw [drop_cons hkl, hc, txs_cons, HT.out]; rfl)
        clear hc HT
        go_wp2_with (at_builtin; refine wpList_append_own _ rfl _ _ 100 rfl w.heap.size 65 i0 (.pointer none) 1 8 Try.underlying100 hi hz0 hz1 hz2 rfl (by decide) _ _ _ rfl (hown.alloc _) ⟨wr.heap.size, 0, none⟩ 1 1 [.pointer none] rfl rfl ?c1 ?c2 ?c3 ?c4 ?c5 ?_)
        case c1 =>
          intro t u ht
          match t, ht with
          | 0, ht => simp at ht; subst ht; simp [Addr.add]
        case c2 => intro u hu; simp at hu; subst hu; rfl
        case c3 => unfold maxLen; omega
        case c4 => omega
        case c5 => simp; omega
        intro v' w1 hown' hgrow _
        have hb1 := app_below hbw hsz hown hgrow
        have hk1 := (KeepT.alloc 106 wr _).trans (app_keep (hown.alloc _) hgrow (by decide))
        have HS1 : Hid (Stk (CellsAt 106 w1) (Tr.nil :: ts) (.pointer none :: vs)) := Lib.hid ⟨rfl, HS.out.keep hk1⟩
        have HO : Hid (w1.ownsRow w.heap.size 65 1 v' (Value.pointer none :: vs).length (Value.pointer none :: vs).reverse) := Lib.hid (by rw [List.reverse_cons, List.length_cons]; exact hown')
        clear hown' hgrow hown hbw HS hk1
        go_wp2
        go_roundw
        case rel => exact ⟨k, _, _, by omega, rfl, HT1, HS1, HO.out, hb1⟩
        case measure => simp [intOf]
      by_cases hc9 : s.data.toList[k] = 49
      · clear hc
        have hc := hc9
        have hc' : s[k] = 49 := hc
        by_cases h2 : 2 ≤ ts.length
        rotate_left
        · have HN := Lib.hid (isT_few HLN.out hkl hc HT.out h2)
          have HL := HS.out.len
          obtain ⟨A, cap, hv⟩ : ∃ A cap, u6 = .slice A vs.length cap := by
            rcases hown.2 with ⟨rfl, h0⟩ | ⟨g, cap, cur, rfl, _⟩
            · exact ⟨_, _, by rw [h0]⟩
            · exact ⟨_, _, rfl⟩
          subst hv
          have hv1 : ¬ (1 : Int) < (vs.length : Int) := by omega
          clear hown h2 HL HS hc hc9 hfew
          generalize vs.length = q at *
          go_wp2
          go_ret2
          exact ⟨hbw, .inr ⟨HN.out, rfl⟩⟩
        obtain ⟨a, b, r, rfl⟩ : ∃ a b r, ts = a :: b :: r := by
          match ts, h2 with
          | a :: b :: r, _ => exact ⟨a, b, r, rfl⟩
        clear h2 hc9
        obtain ⟨x, y, u, rfl, hx, hy, hu⟩ := HS.out.two
        have HT1 : Hid (txs (Tr.pair a b :: r) = s.data.toList.drop k) := Lib.hid (by rw [drop_cons hkl, hc, ← HT.out, txs_cons, txs_cons, txs_cons]; simp [tx])
        have hle : (tx a).length ≤ 2000000 ∧ (tx b).length ≤ 2000000 := by
          have h3 := congrArg List.length HT.out
          have h4 := HLN.out
          rw [List.length_drop, txs_cons, txs_cons, List.length_append, List.length_append] at h3
          omega
        clear hc HT HS
        obtain ⟨g, cap, rfl, _, hcap, hg0, hg, cell1, own1⟩ := own_top hown (rev_two x y u)
        obtain ⟨g2, cap2, hg2, _, hcap2, _, _, cell2, own2⟩ := own_top own1 rfl
        injection hg2 with e1 e2 e3
        injection e1 with e1
        injection e1 with e1
        subst e1; subst e3
        simp only [List.length_append, List.length_reverse, List.length_cons, List.length_nil] at cell1 cell2 hcap hfew own2 ⊢
        clear own1 hown hcap2 e2
        obtain ⟨X, rfl⟩ := hx.one
        obtain ⟨Y, rfl⟩ := hy.one
        have HC := Lib.hid (fun W (h1 : NodeW 106 W a (.pointer X)) (h2 : NodeW 106 W b (.pointer Y)) => tpair_any W a b _ _ h1 h2 (by omega) (by omega))
        have HX := Lib.hid hx; have HY := Lib.hid hy; have HU := Lib.hid hu; clear hx hy hu hle
        generalize hqn : u.length = qn at *
        have HQ := Lib.hid hqn; clear hqn
        obtain ⟨n, hn⟩ : ∃ n, qn + 1 + 1 = n := ⟨_, rfl⟩
        simp only [Nat.zero_add] at cell1 cell2 hcap own2 ⊢
        rw [hn] at hcap hfew ⊢
        rw [show qn + 1 = n - 1 from by omega] at cell1
        rw [show qn = n - 2 from by omega] at cell2
        have m0 : 2 ≤ n := by omega
        have m5 : (1 : Int) ≤ (n : Int) := by omega
        have m7 : (1 : Int) < (n : Int) := by omega
        have m6 : (2 : Int) ≤ (n : Int) := by omega
        have m1 : (0 : Int) ≤ (n : Int) - 1 := by omega
        have m2 : (n : Int) - 1 < (n : Int) := by omega
        have m3 : (0 : Int) ≤ (n : Int) - 2 := by omega
        have m4 : (n : Int) - 2 < (n : Int) := by omega
        have m8 : (n : Int) - 2 ≤ (cap : Int) := by omega
        have m9 : n - 2 ≤ cap := by omega
        have s1 : ((n : Int) - 1).toNat = n - 1 := by omega
        have s2 : ((n : Int) - 2).toNat = n - 2 := by omega
        have wr1 : IntKind.i64.wrap ((n : Int) - 1) = (n : Int) - 1 := IntWalk.i64_in _ (by omega)
        have wr2 : IntKind.i64.wrap ((n : Int) - 2) = (n : Int) - 2 := IntWalk.i64_in _ (by omega)
        rw [show qn = n - 2 from by omega] at own2 HQ
        have OWN := Lib.hid own2
        clear hn own2
        go_wp2_with fail
        have HCL := Lib.hid (fun W (hb : Below wr.heap.size wr W) => HC.out W (NodeW.below HX.out hb) (NodeW.below HY.out hb))
        have HOW := Lib.hid (fun W (hb : Below wr.heap.size wr W) => own_below OWN.out hb)
        have HSZ := Lib.hid hsz
        clear HC HX HY OWN hsz
        go_region_law
          (first
            | (go_simp; go_at_call 50; refine (HCL.out _ (by first | exact Below.refl _ _ | exact (Below.refl _ _).drew)).mono ?_; rintro e w2 ⟨v2, rfl, hv2, hb2⟩; obtain ⟨Z, rfl⟩ := hv2.one; have hb3 : Below wr.heap.size wr w2 := (Below.refl _ wr).drew.trans hb2)
            | (refine step_append_lies _ (by rfl) _ _ _ (by rfl) w.heap.size 65 i0 _ 1 8 Try.underlying100 hi hz0 hz1 hz2 rfl (by omega) _ _ _ (by rfl) ((HOW.out _ hb3).alloc _) ⟨w2.heap.size, 0, none⟩ 1 1 [.pointer Z] (by rfl) (by rfl) (World.news_of_block (cs := #[.pointer Z]) (t := 65 ) (fr := (0, 0)) (heap_alloc_new w2 _)) (by simp [Value.oneCell']) (by omega) (by unfold maxLen; omega) (by omega) (by have := hb3.size; have := HSZ.out; simp; omega) (w2.heap.size + 1) (by simp) ?_; intro gg cap1 w3 hown3 hgrow3 hat hlt1))
        all_goals
          have hb2' : Below w.heap.size w w2 := hbw.trans (hb3.mono HSZ.out)
          have OWN2 := Lib.hid (HOW.out _ hb3)
          have HU2 := Lib.hid (HU.out.keep (KeepT.below hb3))
          have hsz2 := hb2'.size
          have HV2 := Lib.hid hv2
          have hb1 := app_below hb2' hsz2 OWN2.out hgrow3
          have hk1 := (KeepT.alloc 106 w2 _).trans (app_keep (OWN2.out.alloc _) hgrow3 (by decide))
          have HS1 : Hid (Stk (CellsAt 106 w3) (Tr.pair a b :: r) (.pointer Z :: u)) := Lib.hid ⟨NodeW.keep HV2.out hk1, HU2.out.keep hk1⟩
          have HO : Hid (w3.ownsRow w.heap.size 65 1 (.slice (some ⟨gg, 0, none⟩) (n - 2 + 1) cap1) (Value.pointer Z :: u).length (Value.pointer Z :: u).reverse) := Lib.hid (by rw [List.reverse_cons, List.length_cons, HQ.out]; exact hown3)
          clear hown3 hgrow3 OWN2 hb2' hk1 hat hlt1 hb3 hb2 hv2 cell1 cell2 hbw
          go_wp2
          go_roundw
          case rel => exact ⟨k, _, _, by omega, rfl, HT1, HS1, HO.out, hb1⟩
          case measure => simp [intOf]
      · have HN := Lib.hid (isT_not HLN.out hkl hc hc9)
        have e1 : (((s[k].toNat : Nat) : Int) == 48) = false := byte_not hc
        have e2 : (((s[k].toNat : Nat) : Int) == 49) = false := byte_not hc9
        clear hown hc hc9 HS HT hfew
        go_wp2
        go_ret2
        exact ⟨hbw, .inr ⟨HN.out, rfl⟩⟩
set_option maxHeartbeats 800000 in
set_option maxRecDepth 100000 in
theorem grow_long (l : List UInt8) (most : Nat) (w : World) (hm : most < l.length) :
    Calls Try.prog 41 #[.string (S l), .int .i64 (most : Int)] w fun e w' => e = .returned (.tuple #[.pointer none, .bool false]) ∧ w = w' := by
  have hsl : (S l).size = l.length := S_size l
  generalize S l = s at *
  have h1 : (most : Int) < (s.size : Int) := by omega
  clear hsl hm
  go_enter Try.func41, Try.ntmps41
  go_wp2
  go_ret2
  exact ⟨rfl, rfl⟩
end Go.Proofs.Ytmhoacnbmbhcjab
