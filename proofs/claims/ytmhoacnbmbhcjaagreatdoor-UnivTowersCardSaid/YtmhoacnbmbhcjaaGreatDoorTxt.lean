/- The reference's Decode. By an AI agent. -/
import Derived.Test.YtmhoacnbmbhcjaaGreatDoorCod
import Derived.Test.YtmhoacnbmbhcjaaGreatDoorPrg
import Derived.Deep.RegionWith
import Derived.Deep.DeepCutAuto
namespace Go.Proofs.YtmhoacnbmbhcjaaGreatDoor
open Go.RowKit Pl

/-- the instruction that a tree is read as -/
def decr (op a : Int) (r : List UInt8) : Ins :=
  if op = 0 then ⟨op, a, 0, 0, r⟩
  else if op = 1 ∨ op = 3 ∨ op = 4 then ⟨op, a, val r, 0, []⟩
  else if op = 2 then ⟨op, a, val (hd r), val (tl r), []⟩
  else if op = 5 then ⟨op, a, if hd r = [48] then val (tl r) else -val (tl r), 0, []⟩
  else ⟨op, a, 0, 0, []⟩
def dec (it : List UInt8) : Ins := decr (val (hd it)) (val (hd (tl it))) (tl (tl it))
def decs (ls : List (List UInt8)) : List Ins := ls.map dec
theorem decs_len (ls : List (List UInt8)) : (decs ls).length = ls.length := by simp [decs]
theorem decs_take {ls : List (List UInt8)} {k : Nat} (h : k < ls.length) : decs (ls.take (k + 1)) = decs (ls.take k) ++ [dec (ls.getD k [])] := by
  unfold decs
  rw [List.take_succ_eq_append_getElem h, List.map_append]; simp [List.getD, h]
theorem val_ge (l : List UInt8) : -1 ≤ val l := by unfold val; split <;> omega
theorem val_le (l : List UInt8) : val l ≤ l.length := by unfold val; split <;> omega

theorem cells_one (x : Ins) : ∀ u ∈ x.cells, u.oneCell' = true := by
  have := progV_oneCell [x]
  rwa [progV_one] at this

theorem news_second (wr : World) (o : Obj) (x : Ins) (ty : TypeId) : ∀ t u, x.cells[t]? = some u → ((wr.alloc o).alloc (.cells x.cells.toArray ty)).cell? ((⟨wr.heap.size + 1, 0, none⟩ : Addr).add t) = some u := by
  have h := World.news_of_block (heap_alloc_new (wr.alloc o) (Obj.cells x.cells.toArray ty))
  rw [show (wr.alloc o).heap.size = wr.heap.size + 1 from by simp] at h
  intro t u ht
  exact h t u (by simpa using ht)
theorem dHead (l : List UInt8) (h : vld l = true) (W : World) : Calls Tryz.prog 85 #[.string (S l)] W fun e w' => e = .returned (.string (S (hd l))) ∧ W = w' := rHead_yes (S l) W h
theorem dTail (l : List UInt8) (h : vld l = true) (W : World) : Calls Tryz.prog 83 #[.string (S l)] W fun e w' => e = .returned (.string (S (tl l))) ∧ W = w' := rTail_yes (S l) W h
theorem dValue (l : List UInt8) (h : vld l = true) (W : World) : Calls Tryz.prog 84 #[.string (S l)] W fun e w' => e = .returned (.int .i64 (val l)) ∧ W = w' :=
  rValue_any (S l) W (by rw [S_size]; have := (vld_iff.1 h).1; omega)

theorem own_base {w : World} {base base2 n : Nat} {e : TypeId} {size : Nat} {v : Value} {xs : List Value} (h : w.ownsRow base e size v n xs) (hb : base2 ≤ base) : w.ownsRow base2 e size v n xs := by
  refine ⟨h.1, ?_⟩
  rcases h.2 with h | ⟨g, cap, cur, h1, h2, h3⟩
  · exact .inl h
  · exact .inr ⟨g, cap, cur, h1, Nat.le_trans hb h2, h3⟩
theorem decr_tree (op a : Int) (r : List UInt8) : (decr op a r).tree.length ≤ r.length := by
  unfold decr; (repeat' split) <;> simp
theorem dec_tree {it : List UInt8} (h : vld it = true) : (dec it).tree.length ≤ 281474976710656 := by
  have := decr_tree (val (hd it)) (val (hd (tl it))) (tl (tl it))
  have := (vld_iff.1 (vld_hd (vld_hd h).2).2).1
  unfold dec; omega

set_option maxHeartbeats 3200000 in
set_option maxRecDepth 100000 in
theorem Decode_few (s : ByteArray) (w : World) (ok : Bool) (hv : vld s.data.toList = true) (hn0 : 0 < (itemsOf s.data.toList).length) (hn : (itemsOf s.data.toList).length ≤ 4000)
    (hok : ok = true ↔ PValid (decs (itemsOf s.data.toList)) ∧ enc (codes (decs (itemsOf s.data.toList))) = s.data.toList) :
    Calls Tryz.prog 37 #[.string s] w fun e w' => ∃ v, e = .returned (.tuple #[v, .bool ok]) ∧ w'.ownsRow w.heap.size 64 5 v (itemsOf s.data.toList).length (progV (decs (itemsOf s.data.toList))) ∧ Below w.heap.size w w' := by
  obtain ⟨i0, hi, hz0, hz1, hz2⟩ := info_parts Tryz.infoIns
  have HI := Lib.hid (rItems_yes s w hv)
  have hall := items_valid hv
  generalize hls : itemsOf s.data.toList = ls at *
  have HA := Lib.hid hall; have HO := Lib.hid hok
  generalize hnn : ls.length = n at *
  have HN := Lib.hid hnn
  clear hall hok hnn hls
  go_enter Tryz.func37, Tryz.ntmps37
  go_wp2_with fail
  refine HI.out.mono ?_
  rintro e w1 ⟨v, rfl, hown, hb⟩
  obtain ⟨g, cap, rfl, hgn, hg0, hst⟩ := own_strs hown hn0
  have HST := Lib.hid hst; clear hst hown
  rw [← hgn]
  clear hgn
  go_wp2_with fail
  go_loopw [5, 6] (fun v i wr => ∃ k : Nat, k ≤ n ∧ i = .int .i64 k ∧ wr.ownsRow w1.heap.size 64 5 v k (progV (decs (ls.take k))) ∧ Below w1.heap.size w1 wr) (fun _ i _ => n - (intOf i).toNat)
  case atStart => exact ⟨0, Nat.zero_le _, rfl, World.ownsRow_nil _ _ _ _, Below.refl _ _⟩
  case round =>
    obtain ⟨k, hk, rfl, hown, hbw⟩ := hrel
    have hsz := hbw.size
    by_cases hlt : k < n
    · have hcell := (HST.out.below hbw).2 k (by rw [HN.out]; exact hlt)
      rw [Nat.zero_add] at hcell
      have hvi := HA.out (ls.getD k []) (by rw [List.getD_eq_getElem?_getD, List.getElem?_eq_getElem (by rw [HN.out]; exact hlt)]; exact List.getElem_mem _)
      have HT := Lib.hid (decs_take (ls := ls) (k := k) (by rw [HN.out]; exact hlt))
      generalize ls.getD k [] = it at *
      have v1 := vld_hd hvi
      have v2 := vld_hd v1.2
      have v3 := vld_hd v2.2
      have T1 := Lib.hid (dTail it hvi); have H1 := Lib.hid (dHead it hvi); have V1 := Lib.hid (dValue (hd it) v1.1)
      have T2 := Lib.hid (dTail (tl it) v1.2); have H2 := Lib.hid (dHead (tl it) v1.2); have V2 := Lib.hid (dValue (hd (tl it)) v2.1)
      have V3 := Lib.hid (dValue (tl (tl it)) v2.2)
      have T3 := Lib.hid (dTail (tl (tl it)) v2.2); have H3 := Lib.hid (dHead (tl (tl it)) v2.2)
      have V4 := Lib.hid (dValue (hd (tl (tl it))) v3.1); have V5 := Lib.hid (dValue (tl (tl (tl it))) v3.2)
      have u4 := val_ge (tl (tl (tl it))); have u5 := val_le (tl (tl (tl it))); have u6 := (vld_iff.1 v3.2).1
      have u7 : val (tl (tl (tl it))) ≤ 2000000 := by omega
      have HD : Hid (dec it = decr (val (hd it)) (val (hd (tl it))) (tl (tl it))) := Lib.hid rfl
      clear hvi v1 v2 v3 u5 u6
      generalize val (hd it) = op at *
      generalize val (hd (tl it)) = a at *
      generalize hd it = hit at *
      generalize hd (tl it) = ha at *
      generalize tl (tl it) = r at *
      generalize tl it = tit at *
      by_cases h0 : op = 0
      · subst h0
        have HX : Hid (dec it = ⟨0, a, 0, 0, r⟩) := Lib.hid (by rw [HD.out]; simp [decr])
        go_wp2_with (first
          | (go_at_call 83; (with_reducible refine (T1.out _).mono ?_); rintro e w2 ⟨rfl, rfl⟩)
          | (go_at_call 83; (with_reducible refine (T2.out _).mono ?_); rintro e w2 ⟨rfl, rfl⟩)
          | (go_at_call 83; (with_reducible refine (T3.out _).mono ?_); rintro e w2 ⟨rfl, rfl⟩)
          | (go_at_call 85; (with_reducible refine (H1.out _).mono ?_); rintro e w2 ⟨rfl, rfl⟩)
          | (go_at_call 85; (with_reducible refine (H2.out _).mono ?_); rintro e w2 ⟨rfl, rfl⟩)
          | (go_at_call 85; (with_reducible refine (H3.out _).mono ?_); rintro e w2 ⟨rfl, rfl⟩)
          | (go_at_call 84; (with_reducible refine (V1.out _).mono ?_); rintro e w2 ⟨rfl, rfl⟩)
          | (go_at_call 84; (with_reducible refine (V2.out _).mono ?_); rintro e w2 ⟨rfl, rfl⟩)
          | (go_at_call 84; (with_reducible refine (V3.out _).mono ?_); rintro e w2 ⟨rfl, rfl⟩)
          | (go_at_call 84; (with_reducible refine (V4.out _).mono ?_); rintro e w2 ⟨rfl, rfl⟩)
          | (go_at_call 84; (with_reducible refine (V5.out _).mono ?_); rintro e w2 ⟨rfl, rfl⟩)
          | (at_builtin; refine wpList_append_own _ rfl _ _ 23 rfl w1.heap.size 64 i0 (.agg #[.int .i64 0, .int .i64 0, .int .i64 0, .int .i64 0, .string ⟨#[]⟩]) 5 48 Tryz.underlying23 hi hz0 hz1 hz2 rfl (by decide) _ _ _ rfl ((hown.alloc _).alloc _) ⟨wr.heap.size + 1, 0, none⟩ 1 1 (Ins.cells ⟨0, a, 0, 0, r⟩) rfl rfl ?c1 ?c2 ?c3 ?c4 ?c5 ?_))
        case c1 => exact news_second wr _ ⟨0, a, 0, 0, r⟩ _
        case c2 => exact cells_one _
        case c3 => unfold maxLen; omega
        case c4 => omega
        case c5 => simp; omega
        intro v' w3 hown' hgrow _
        have hb4 := app_below (hbw.alloc hsz _) (by simp; omega) (hown.alloc _) hgrow
        have ho : w3.ownsRow w1.heap.size 64 5 v' (k + 1) (progV (decs (ls.take (k + 1)))) := by
          rw [HT.out, progV_app, progV_one, HX.out]; exact hown'
        have HO3 := Lib.hid ho
        clear ho hown' hgrow hown hbw
        go_wp2
        go_roundw
        case rel => exact ⟨k + 1, by omega, by go_num, HO3.out, hb4⟩
        case measure => simp [intOf]; omega
      by_cases h1 : op = 1
      · subst h1
        have HX : Hid (dec it = ⟨1, a, val r, 0, []⟩) := Lib.hid (by rw [HD.out]; simp [decr])
        go_wp2_with (first
          | (go_at_call 83; (with_reducible refine (T1.out _).mono ?_); rintro e w2 ⟨rfl, rfl⟩)
          | (go_at_call 83; (with_reducible refine (T2.out _).mono ?_); rintro e w2 ⟨rfl, rfl⟩)
          | (go_at_call 83; (with_reducible refine (T3.out _).mono ?_); rintro e w2 ⟨rfl, rfl⟩)
          | (go_at_call 85; (with_reducible refine (H1.out _).mono ?_); rintro e w2 ⟨rfl, rfl⟩)
          | (go_at_call 85; (with_reducible refine (H2.out _).mono ?_); rintro e w2 ⟨rfl, rfl⟩)
          | (go_at_call 85; (with_reducible refine (H3.out _).mono ?_); rintro e w2 ⟨rfl, rfl⟩)
          | (go_at_call 84; (with_reducible refine (V1.out _).mono ?_); rintro e w2 ⟨rfl, rfl⟩)
          | (go_at_call 84; (with_reducible refine (V2.out _).mono ?_); rintro e w2 ⟨rfl, rfl⟩)
          | (go_at_call 84; (with_reducible refine (V3.out _).mono ?_); rintro e w2 ⟨rfl, rfl⟩)
          | (go_at_call 84; (with_reducible refine (V4.out _).mono ?_); rintro e w2 ⟨rfl, rfl⟩)
          | (go_at_call 84; (with_reducible refine (V5.out _).mono ?_); rintro e w2 ⟨rfl, rfl⟩)
          | (at_builtin; refine wpList_append_own _ rfl _ _ 23 rfl w1.heap.size 64 i0 (.agg #[.int .i64 0, .int .i64 0, .int .i64 0, .int .i64 0, .string ⟨#[]⟩]) 5 48 Tryz.underlying23 hi hz0 hz1 hz2 rfl (by decide) _ _ _ rfl ((hown.alloc _).alloc _) ⟨wr.heap.size + 1, 0, none⟩ 1 1 (Ins.cells ⟨1, a, val r, 0, []⟩) rfl rfl ?c1 ?c2 ?c3 ?c4 ?c5 ?_))
        case c1 => exact news_second wr _ ⟨1, a, val r, 0, []⟩ _
        case c2 => exact cells_one _
        case c3 => unfold maxLen; omega
        case c4 => omega
        case c5 => simp; omega
        intro v' w3 hown' hgrow _
        have hb4 := app_below (hbw.alloc hsz _) (by simp; omega) (hown.alloc _) hgrow
        have ho : w3.ownsRow w1.heap.size 64 5 v' (k + 1) (progV (decs (ls.take (k + 1)))) := by
          rw [HT.out, progV_app, progV_one, HX.out]; exact hown'
        have HO3 := Lib.hid ho
        clear ho hown' hgrow hown hbw
        go_wp2
        go_roundw
        case rel => exact ⟨k + 1, by omega, by go_num, HO3.out, hb4⟩
        case measure => simp [intOf]; omega
      by_cases h3 : op = 3
      · subst h3
        have HX : Hid (dec it = ⟨3, a, val r, 0, []⟩) := Lib.hid (by rw [HD.out]; simp [decr])
        go_wp2_with (first
          | (go_at_call 83; (with_reducible refine (T1.out _).mono ?_); rintro e w2 ⟨rfl, rfl⟩)
          | (go_at_call 83; (with_reducible refine (T2.out _).mono ?_); rintro e w2 ⟨rfl, rfl⟩)
          | (go_at_call 83; (with_reducible refine (T3.out _).mono ?_); rintro e w2 ⟨rfl, rfl⟩)
          | (go_at_call 85; (with_reducible refine (H1.out _).mono ?_); rintro e w2 ⟨rfl, rfl⟩)
          | (go_at_call 85; (with_reducible refine (H2.out _).mono ?_); rintro e w2 ⟨rfl, rfl⟩)
          | (go_at_call 85; (with_reducible refine (H3.out _).mono ?_); rintro e w2 ⟨rfl, rfl⟩)
          | (go_at_call 84; (with_reducible refine (V1.out _).mono ?_); rintro e w2 ⟨rfl, rfl⟩)
          | (go_at_call 84; (with_reducible refine (V2.out _).mono ?_); rintro e w2 ⟨rfl, rfl⟩)
          | (go_at_call 84; (with_reducible refine (V3.out _).mono ?_); rintro e w2 ⟨rfl, rfl⟩)
          | (go_at_call 84; (with_reducible refine (V4.out _).mono ?_); rintro e w2 ⟨rfl, rfl⟩)
          | (go_at_call 84; (with_reducible refine (V5.out _).mono ?_); rintro e w2 ⟨rfl, rfl⟩)
          | (at_builtin; refine wpList_append_own _ rfl _ _ 23 rfl w1.heap.size 64 i0 (.agg #[.int .i64 0, .int .i64 0, .int .i64 0, .int .i64 0, .string ⟨#[]⟩]) 5 48 Tryz.underlying23 hi hz0 hz1 hz2 rfl (by decide) _ _ _ rfl ((hown.alloc _).alloc _) ⟨wr.heap.size + 1, 0, none⟩ 1 1 (Ins.cells ⟨3, a, val r, 0, []⟩) rfl rfl ?c1 ?c2 ?c3 ?c4 ?c5 ?_))
        case c1 => exact news_second wr _ ⟨3, a, val r, 0, []⟩ _
        case c2 => exact cells_one _
        case c3 => unfold maxLen; omega
        case c4 => omega
        case c5 => simp; omega
        intro v' w3 hown' hgrow _
        have hb4 := app_below (hbw.alloc hsz _) (by simp; omega) (hown.alloc _) hgrow
        have ho : w3.ownsRow w1.heap.size 64 5 v' (k + 1) (progV (decs (ls.take (k + 1)))) := by
          rw [HT.out, progV_app, progV_one, HX.out]; exact hown'
        have HO3 := Lib.hid ho
        clear ho hown' hgrow hown hbw
        go_wp2
        go_roundw
        case rel => exact ⟨k + 1, by omega, by go_num, HO3.out, hb4⟩
        case measure => simp [intOf]; omega
      by_cases h4 : op = 4
      · subst h4
        have HX : Hid (dec it = ⟨4, a, val r, 0, []⟩) := Lib.hid (by rw [HD.out]; simp [decr])
        go_wp2_with (first
          | (go_at_call 83; (with_reducible refine (T1.out _).mono ?_); rintro e w2 ⟨rfl, rfl⟩)
          | (go_at_call 83; (with_reducible refine (T2.out _).mono ?_); rintro e w2 ⟨rfl, rfl⟩)
          | (go_at_call 83; (with_reducible refine (T3.out _).mono ?_); rintro e w2 ⟨rfl, rfl⟩)
          | (go_at_call 85; (with_reducible refine (H1.out _).mono ?_); rintro e w2 ⟨rfl, rfl⟩)
          | (go_at_call 85; (with_reducible refine (H2.out _).mono ?_); rintro e w2 ⟨rfl, rfl⟩)
          | (go_at_call 85; (with_reducible refine (H3.out _).mono ?_); rintro e w2 ⟨rfl, rfl⟩)
          | (go_at_call 84; (with_reducible refine (V1.out _).mono ?_); rintro e w2 ⟨rfl, rfl⟩)
          | (go_at_call 84; (with_reducible refine (V2.out _).mono ?_); rintro e w2 ⟨rfl, rfl⟩)
          | (go_at_call 84; (with_reducible refine (V3.out _).mono ?_); rintro e w2 ⟨rfl, rfl⟩)
          | (go_at_call 84; (with_reducible refine (V4.out _).mono ?_); rintro e w2 ⟨rfl, rfl⟩)
          | (go_at_call 84; (with_reducible refine (V5.out _).mono ?_); rintro e w2 ⟨rfl, rfl⟩)
          | (at_builtin; refine wpList_append_own _ rfl _ _ 23 rfl w1.heap.size 64 i0 (.agg #[.int .i64 0, .int .i64 0, .int .i64 0, .int .i64 0, .string ⟨#[]⟩]) 5 48 Tryz.underlying23 hi hz0 hz1 hz2 rfl (by decide) _ _ _ rfl ((hown.alloc _).alloc _) ⟨wr.heap.size + 1, 0, none⟩ 1 1 (Ins.cells ⟨4, a, val r, 0, []⟩) rfl rfl ?c1 ?c2 ?c3 ?c4 ?c5 ?_))
        case c1 => exact news_second wr _ ⟨4, a, val r, 0, []⟩ _
        case c2 => exact cells_one _
        case c3 => unfold maxLen; omega
        case c4 => omega
        case c5 => simp; omega
        intro v' w3 hown' hgrow _
        have hb4 := app_below (hbw.alloc hsz _) (by simp; omega) (hown.alloc _) hgrow
        have ho : w3.ownsRow w1.heap.size 64 5 v' (k + 1) (progV (decs (ls.take (k + 1)))) := by
          rw [HT.out, progV_app, progV_one, HX.out]; exact hown'
        have HO3 := Lib.hid ho
        clear ho hown' hgrow hown hbw
        go_wp2
        go_roundw
        case rel => exact ⟨k + 1, by omega, by go_num, HO3.out, hb4⟩
        case measure => simp [intOf]; omega
      by_cases h2 : op = 2
      · subst h2
        have HX : Hid (dec it = ⟨2, a, val (hd r), val (tl r), []⟩) := Lib.hid (by rw [HD.out]; simp [decr])
        go_wp2_with (first
          | (go_at_call 83; (with_reducible refine (T1.out _).mono ?_); rintro e w2 ⟨rfl, rfl⟩)
          | (go_at_call 83; (with_reducible refine (T2.out _).mono ?_); rintro e w2 ⟨rfl, rfl⟩)
          | (go_at_call 83; (with_reducible refine (T3.out _).mono ?_); rintro e w2 ⟨rfl, rfl⟩)
          | (go_at_call 85; (with_reducible refine (H1.out _).mono ?_); rintro e w2 ⟨rfl, rfl⟩)
          | (go_at_call 85; (with_reducible refine (H2.out _).mono ?_); rintro e w2 ⟨rfl, rfl⟩)
          | (go_at_call 85; (with_reducible refine (H3.out _).mono ?_); rintro e w2 ⟨rfl, rfl⟩)
          | (go_at_call 84; (with_reducible refine (V1.out _).mono ?_); rintro e w2 ⟨rfl, rfl⟩)
          | (go_at_call 84; (with_reducible refine (V2.out _).mono ?_); rintro e w2 ⟨rfl, rfl⟩)
          | (go_at_call 84; (with_reducible refine (V3.out _).mono ?_); rintro e w2 ⟨rfl, rfl⟩)
          | (go_at_call 84; (with_reducible refine (V4.out _).mono ?_); rintro e w2 ⟨rfl, rfl⟩)
          | (go_at_call 84; (with_reducible refine (V5.out _).mono ?_); rintro e w2 ⟨rfl, rfl⟩)
          | (at_builtin; refine wpList_append_own _ rfl _ _ 23 rfl w1.heap.size 64 i0 (.agg #[.int .i64 0, .int .i64 0, .int .i64 0, .int .i64 0, .string ⟨#[]⟩]) 5 48 Tryz.underlying23 hi hz0 hz1 hz2 rfl (by decide) _ _ _ rfl ((hown.alloc _).alloc _) ⟨wr.heap.size + 1, 0, none⟩ 1 1 (Ins.cells ⟨2, a, val (hd r), val (tl r), []⟩) rfl rfl ?c1 ?c2 ?c3 ?c4 ?c5 ?_))
        case c1 => exact news_second wr _ ⟨2, a, val (hd r), val (tl r), []⟩ _
        case c2 => exact cells_one _
        case c3 => unfold maxLen; omega
        case c4 => omega
        case c5 => simp; omega
        intro v' w3 hown' hgrow _
        have hb4 := app_below (hbw.alloc hsz _) (by simp; omega) (hown.alloc _) hgrow
        have ho : w3.ownsRow w1.heap.size 64 5 v' (k + 1) (progV (decs (ls.take (k + 1)))) := by
          rw [HT.out, progV_app, progV_one, HX.out]; exact hown'
        have HO3 := Lib.hid ho
        clear ho hown' hgrow hown hbw
        go_wp2
        go_roundw
        case rel => exact ⟨k + 1, by omega, by go_num, HO3.out, hb4⟩
        case measure => simp [intOf]; omega
      by_cases h5 : op = 5
      · subst h5
        by_cases hh : hd r = [48]
        · have HX : Hid (dec it = ⟨5, a, val (tl r), 0, []⟩) := Lib.hid (by rw [HD.out]; simp [decr, hh])
          rw [hh] at H3
          go_wp2_with (first
            | (go_at_call 83; (with_reducible refine (T1.out _).mono ?_); rintro e w2 ⟨rfl, rfl⟩)
            | (go_at_call 83; (with_reducible refine (T2.out _).mono ?_); rintro e w2 ⟨rfl, rfl⟩)
            | (go_at_call 83; (with_reducible refine (T3.out _).mono ?_); rintro e w2 ⟨rfl, rfl⟩)
            | (go_at_call 85; (with_reducible refine (H1.out _).mono ?_); rintro e w2 ⟨rfl, rfl⟩)
            | (go_at_call 85; (with_reducible refine (H2.out _).mono ?_); rintro e w2 ⟨rfl, rfl⟩)
            | (go_at_call 85; (with_reducible refine (H3.out _).mono ?_); rintro e w2 ⟨rfl, rfl⟩)
            | (go_at_call 84; (with_reducible refine (V1.out _).mono ?_); rintro e w2 ⟨rfl, rfl⟩)
            | (go_at_call 84; (with_reducible refine (V2.out _).mono ?_); rintro e w2 ⟨rfl, rfl⟩)
            | (go_at_call 84; (with_reducible refine (V3.out _).mono ?_); rintro e w2 ⟨rfl, rfl⟩)
            | (go_at_call 84; (with_reducible refine (V4.out _).mono ?_); rintro e w2 ⟨rfl, rfl⟩)
            | (go_at_call 84; (with_reducible refine (V5.out _).mono ?_); rintro e w2 ⟨rfl, rfl⟩)
            | (at_builtin; refine wpList_append_own _ rfl _ _ 23 rfl w1.heap.size 64 i0 (.agg #[.int .i64 0, .int .i64 0, .int .i64 0, .int .i64 0, .string ⟨#[]⟩]) 5 48 Tryz.underlying23 hi hz0 hz1 hz2 rfl (by decide) _ _ _ rfl ((hown.alloc _).alloc _) ⟨wr.heap.size + 1, 0, none⟩ 1 1 (Ins.cells ⟨5, a, val (tl r), 0, []⟩) rfl rfl ?c1 ?c2 ?c3 ?c4 ?c5 ?_))
          case c1 => exact news_second wr _ ⟨5, a, val (tl r), 0, []⟩ _
          case c2 => exact cells_one _
          case c3 => unfold maxLen; omega
          case c4 => omega
          case c5 => simp; omega
          intro v' w3 hown' hgrow _
          have hb4 := app_below (hbw.alloc hsz _) (by simp; omega) (hown.alloc _) hgrow
          have ho : w3.ownsRow w1.heap.size 64 5 v' (k + 1) (progV (decs (ls.take (k + 1)))) := by
            rw [HT.out, progV_app, progV_one, HX.out]; exact hown'
          have HO3 := Lib.hid ho
          clear ho hown' hgrow hown hbw
          go_wp2
          go_roundw
          case rel => exact ⟨k + 1, by omega, by go_num, HO3.out, hb4⟩
          case measure => simp [intOf]; omega
        · have HX : Hid (dec it = ⟨5, a, -val (tl r), 0, []⟩) := Lib.hid (by rw [HD.out]; simp [decr, hh])
          have n1 : ((S (hd r)).toList == [48]) = false := ne_str (by simpa using hh)
          have n2 : (hd r == [48]) = false := beq_eq_false_iff_ne.2 hh
          clear hh
          go_wp2_with (first
            | (go_at_call 83; (with_reducible refine (T1.out _).mono ?_); rintro e w2 ⟨rfl, rfl⟩)
            | (go_at_call 83; (with_reducible refine (T2.out _).mono ?_); rintro e w2 ⟨rfl, rfl⟩)
            | (go_at_call 83; (with_reducible refine (T3.out _).mono ?_); rintro e w2 ⟨rfl, rfl⟩)
            | (go_at_call 85; (with_reducible refine (H1.out _).mono ?_); rintro e w2 ⟨rfl, rfl⟩)
            | (go_at_call 85; (with_reducible refine (H2.out _).mono ?_); rintro e w2 ⟨rfl, rfl⟩)
            | (go_at_call 85; (with_reducible refine (H3.out _).mono ?_); rintro e w2 ⟨rfl, rfl⟩)
            | (go_at_call 84; (with_reducible refine (V1.out _).mono ?_); rintro e w2 ⟨rfl, rfl⟩)
            | (go_at_call 84; (with_reducible refine (V2.out _).mono ?_); rintro e w2 ⟨rfl, rfl⟩)
            | (go_at_call 84; (with_reducible refine (V3.out _).mono ?_); rintro e w2 ⟨rfl, rfl⟩)
            | (go_at_call 84; (with_reducible refine (V4.out _).mono ?_); rintro e w2 ⟨rfl, rfl⟩)
            | (go_at_call 84; (with_reducible refine (V5.out _).mono ?_); rintro e w2 ⟨rfl, rfl⟩)
            | (at_builtin; refine wpList_append_own _ rfl _ _ 23 rfl w1.heap.size 64 i0 (.agg #[.int .i64 0, .int .i64 0, .int .i64 0, .int .i64 0, .string ⟨#[]⟩]) 5 48 Tryz.underlying23 hi hz0 hz1 hz2 rfl (by decide) _ _ _ rfl ((hown.alloc _).alloc _) ⟨wr.heap.size + 1, 0, none⟩ 1 1 (Ins.cells ⟨5, a, -val (tl r), 0, []⟩) rfl rfl ?c1 ?c2 ?c3 ?c4 ?c5 ?_))
          case c1 => exact news_second wr _ ⟨5, a, -val (tl r), 0, []⟩ _
          case c2 => exact cells_one _
          case c3 => unfold maxLen; omega
          case c4 => omega
          case c5 => simp; omega
          intro v' w3 hown' hgrow _
          have hb4 := app_below (hbw.alloc hsz _) (by simp; omega) (hown.alloc _) hgrow
          have ho : w3.ownsRow w1.heap.size 64 5 v' (k + 1) (progV (decs (ls.take (k + 1)))) := by
            rw [HT.out, progV_app, progV_one, HX.out]; exact hown'
          have HO3 := Lib.hid ho
          clear ho hown' hgrow hown hbw
          go_wp2
          go_roundw
          case rel => exact ⟨k + 1, by omega, by go_num, HO3.out, hb4⟩
          case measure => simp [intOf]; omega
      · have HX : Hid (dec it = ⟨op, a, 0, 0, []⟩) := Lib.hid (by rw [HD.out]; simp [decr, h0, h1, h2, h3, h4, h5])
        have o0 : (op == 0) = false := beq_eq_false_iff_ne.2 h0
        have o1 : (op == 1) = false := beq_eq_false_iff_ne.2 h1
        have o2 : (op == 2) = false := beq_eq_false_iff_ne.2 h2
        have o3 : (op == 3) = false := beq_eq_false_iff_ne.2 h3
        have o4 : (op == 4) = false := beq_eq_false_iff_ne.2 h4
        have o5 : (op == 5) = false := beq_eq_false_iff_ne.2 h5
        clear h0 h1 h2 h3 h4 h5
        go_wp2_with (first
          | (go_at_call 83; (with_reducible refine (T1.out _).mono ?_); rintro e w2 ⟨rfl, rfl⟩)
          | (go_at_call 83; (with_reducible refine (T2.out _).mono ?_); rintro e w2 ⟨rfl, rfl⟩)
          | (go_at_call 83; (with_reducible refine (T3.out _).mono ?_); rintro e w2 ⟨rfl, rfl⟩)
          | (go_at_call 85; (with_reducible refine (H1.out _).mono ?_); rintro e w2 ⟨rfl, rfl⟩)
          | (go_at_call 85; (with_reducible refine (H2.out _).mono ?_); rintro e w2 ⟨rfl, rfl⟩)
          | (go_at_call 85; (with_reducible refine (H3.out _).mono ?_); rintro e w2 ⟨rfl, rfl⟩)
          | (go_at_call 84; (with_reducible refine (V1.out _).mono ?_); rintro e w2 ⟨rfl, rfl⟩)
          | (go_at_call 84; (with_reducible refine (V2.out _).mono ?_); rintro e w2 ⟨rfl, rfl⟩)
          | (go_at_call 84; (with_reducible refine (V3.out _).mono ?_); rintro e w2 ⟨rfl, rfl⟩)
          | (go_at_call 84; (with_reducible refine (V4.out _).mono ?_); rintro e w2 ⟨rfl, rfl⟩)
          | (go_at_call 84; (with_reducible refine (V5.out _).mono ?_); rintro e w2 ⟨rfl, rfl⟩)
          | (at_builtin; refine wpList_append_own _ rfl _ _ 23 rfl w1.heap.size 64 i0 (.agg #[.int .i64 0, .int .i64 0, .int .i64 0, .int .i64 0, .string ⟨#[]⟩]) 5 48 Tryz.underlying23 hi hz0 hz1 hz2 rfl (by decide) _ _ _ rfl ((hown.alloc _).alloc _) ⟨wr.heap.size + 1, 0, none⟩ 1 1 (Ins.cells ⟨op, a, 0, 0, []⟩) rfl rfl ?c1 ?c2 ?c3 ?c4 ?c5 ?_))
        case c1 => exact news_second wr _ ⟨op, a, 0, 0, []⟩ _
        case c2 => exact cells_one _
        case c3 => unfold maxLen; omega
        case c4 => omega
        case c5 => simp; omega
        intro v' w3 hown' hgrow _
        have hb4 := app_below (hbw.alloc hsz _) (by simp; omega) (hown.alloc _) hgrow
        have ho : w3.ownsRow w1.heap.size 64 5 v' (k + 1) (progV (decs (ls.take (k + 1)))) := by
          rw [HT.out, progV_app, progV_one, HX.out]; exact hown'
        have HO3 := Lib.hid ho
        clear ho hown' hgrow hown hbw
        go_wp2
        go_roundw
        case rel => exact ⟨k + 1, by omega, by go_num, HO3.out, hb4⟩
        case measure => simp [intOf]; omega
    · have hkn : k = n := by omega
      have hlen : (decs ls).length = n := by rw [decs_len, HN.out]
      have ho : wr.ownsRow w1.heap.size 64 5 u5 n (progV (decs ls)) := by
        have := hown
        rw [List.take_of_length_le (by rw [HN.out]; omega)] at this
        rw [hkn] at this; exact this
      clear hkn
      have HFO := Lib.hid (own_base ho hb.size)
      have hfb := hb.trans (hbw.mono hb.size)
      obtain ⟨-, harg, hs2⟩ := own_prog ho
      have hmem : ∀ x ∈ decs ls, x.tree.length ≤ 281474976710656 := by
        intro x hx
        obtain ⟨it, hit, rfl⟩ := List.mem_map.1 hx
        exact dec_tree (HA.out it hit)
      have hPV := fun b hb => PV_arg wr _ (decs ls) b harg (by omega) hmem hb
      obtain ⟨g2, cap2, hv2, hg2, hp⟩ := hs2 hn0
      rw [hlen] at hv2
      subst hv2
      have HARG := Lib.hid harg
      clear hs2 hp ho hown hmem hbw harg hlen
      by_cases hpv : PValid (decs ls)
      · have HV := Lib.hid (hPV true (by simp [hpv]))
        have HPV := Lib.hid hpv
        clear hPV
        have HCO := Lib.hid (fun W h => Code_arg W (.slice (some ⟨g2, 0, none⟩) n cap2) (decs ls) h hpv)
        clear hpv
        by_cases he : enc (codes (decs ls)) = s.data.toList
        · obtain rfl : ok = true := HO.out.2 ⟨HPV.out, he⟩
          have HS : Hid (S (enc (codes (decs ls))) = s) := Lib.hid (by rw [he, ← S_eq])
          clear he
          go_wp2_with fail
          refine HV.out.mono ?_
          rintro e w2 ⟨rfl, h2⟩
          go_wp2_with fail
          refine (HCO.out _ (HARG.out.below h2)).mono ?_
          rintro e w3 ⟨rfl, h3⟩
          rw [HS.out]
          go_wp2_with fail
          go_ret2
          have h23 := bstep h2 h3
          exact ⟨_, rfl, own_keep HFO.out h23, hfb.trans (h23.mono hfb.size)⟩
        · obtain rfl : ok = false := by
            cases ok with
            | false => rfl
            | true => exact absurd (HO.out.1 rfl).2 he
          have n1 := ne_str (s := s) (Ne.symm he)
          rw [beq_eq_false_iff_ne] at n1
          have n2 : (enc (codes (decs ls)) == s.toList) = false := beq_eq_false_iff_ne.2 (fun h => n1 h.symm)
          clear he n1
          go_wp2_with fail
          refine HV.out.mono ?_
          rintro e w2 ⟨rfl, h2⟩
          go_wp2_with fail
          refine (HCO.out _ (HARG.out.below h2)).mono ?_
          rintro e w3 ⟨rfl, h3⟩
          go_wp2_with fail
          go_ret2
          have h23 := bstep h2 h3
          exact ⟨_, rfl, own_keep HFO.out h23, hfb.trans (h23.mono hfb.size)⟩
      · obtain rfl : ok = false := by
          cases ok with
          | false => rfl
          | true => exact absurd (HO.out.1 rfl).1 hpv
        have HV := Lib.hid (hPV false (by simp [hpv]))
        clear hPV hpv
        go_wp2_with fail
        refine HV.out.mono ?_
        rintro e w2 ⟨rfl, h2⟩
        go_wp2_with fail
        go_ret2
        exact ⟨_, rfl, own_keep HFO.out h2, hfb.trans (h2.mono hfb.size)⟩
set_option maxHeartbeats 1600000 in
set_option maxRecDepth 100000 in
theorem Decode_many (s : ByteArray) (w : World) (hv : vld s.data.toList = true) (hn : 4000 < (itemsOf s.data.toList).length) :
    Calls Tryz.prog 37 #[.string s] w fun e w' => e = .returned (.tuple #[.slice none 0 0, .bool false]) ∧ Below w.heap.size w w' := by
  have HI := Lib.hid (rItems_yes s w hv)
  generalize itemsOf s.data.toList = ls at *
  have hn0 : 0 < ls.length := by omega
  go_enter Tryz.func37, Tryz.ntmps37
  go_wp2_with fail
  refine HI.out.mono ?_
  rintro e w1 ⟨v, rfl, hown, hb⟩
  obtain ⟨g, cap, rfl, hgn, hg0, hst⟩ := own_strs hown hn0
  clear hst hown
  go_wp2_with fail
  go_ret2
  exact ⟨rfl, hb⟩
set_option maxHeartbeats 1600000 in
set_option maxRecDepth 100000 in
theorem Decode_zero (w : World) :
    Calls Tryz.prog 37 #[.string (S [48])] w fun e w' => e = .returned (.tuple #[.slice none 0 0, .bool true]) ∧ Below w.heap.size w w' := by
  have HI := Lib.hid (rItems_yes (S [48]) w (by decide))
  have HV := Lib.hid (fun W : World => PV_none W none 0)
  have HC := Lib.hid (fun W : World => Code_none W none 0)
  go_enter Tryz.func37, Tryz.ntmps37
  go_wp2_with fail
  refine HI.out.mono ?_
  rintro e w1 ⟨v, rfl, hown, hb⟩
  obtain ⟨vb, vd, rfl⟩ := own_empty (by exact hown)
  clear hown
  go_wp2_with fail
  go_loop [5, 6] (fun v i => v = .slice none 0 0 ∧ i = .int .i64 0) (fun _ _ => 0)
  case atStart => exact ⟨rfl, rfl⟩
  case round =>
    obtain ⟨rfl, rfl⟩ := hrel
    go_wp2_with fail
    refine (HV.out _).mono ?_
    rintro e w2 ⟨rfl, h2⟩
    go_wp2_with fail
    refine (HC.out _).mono ?_
    rintro e w3 ⟨rfl, h3⟩
    go_wp2_with fail
    go_ret2
    exact ⟨rfl, hb.trans ((bstep h2 h3).mono hb.size)⟩
end Go.Proofs.YtmhoacnbmbhcjaaGreatDoor

namespace Go.Proofs.YtmhoacnbmbhcjaaGreatDoor
open Go.RowKit Pl

def dg (n : Nat) : List UInt8 := if n < 10 then [UInt8.ofNat (48 + n)] else dg (n / 10) ++ [UInt8.ofNat (48 + n % 10)]
termination_by n
decreasing_by omega
theorem dg_small {n : Nat} (h : n < 10) : dg n = [UInt8.ofNat (48 + n)] := by rw [dg, if_pos h]
theorem dg_big {n : Nat} (h : 10 ≤ n) : dg n = dg (n / 10) ++ dg (n % 10) := by rw [dg, if_neg (by omega), dg_small (n := n % 10) (by omega)]
/-- an integer in decimal -/
def dint (n : Int) : List UInt8 := if n < 0 then 45 :: dg n.natAbs else dg n.natAbs

theorem conv_one (w : World) (u : UInt8) :
    (convert 105 9 (.slice (some ⟨w.heap.size, 0, none⟩) 1 1)).run Tryz.prog (w.alloc (.cells #[.int .u8 (u.toNat : Int)] 5)) = .ok (.string (S [u])) (w.alloc (.cells #[.int .u8 (u.toNat : Int)] 5)) := by
  refine run_convert_bytes_back (P := Tryz.prog) _ 105 9 5 ⟨w.heap.size, 0, none⟩ 1 [u] Tryz.underlying105 Tryz.underlying5 Tryz.underlying9 ?_
  intro j hj
  obtain rfl : j = 0 := by simpa using hj
  simp [Addr.add]
set_option maxHeartbeats 1600000 in
set_option maxRecDepth 100000 in
theorem Decimal_digit (d : Nat) (hd : d < 10) (w : World) :
    Calls Tryz.prog 212 #[.int .i64 d] w fun e w' => e = .returned (.string (S (dg d))) ∧ Below w.heap.size w w' := by
  rw [dg_small hd]
  have h : d = 0 ∨ d = 1 ∨ d = 2 ∨ d = 3 ∨ d = 4 ∨ d = 5 ∨ d = 6 ∨ d = 7 ∨ d = 8 ∨ d = 9 := by omega
  rcases h with rfl | rfl | rfl | rfl | rfl | rfl | rfl | rfl | rfl | rfl
  · have hcv : (convert 105 9 (.slice (some ⟨w.heap.size, 0, none⟩) 1 1)).run Tryz.prog (w.alloc (.cells #[.int .u8 48] 5)) = .ok (.string (S [48])) (w.alloc (.cells #[.int .u8 48] 5)) := conv_one w 48
    go_enter Tryz.func212, Tryz.ntmps212
    go_wp2_with fail
    go_ret
    exact ⟨rfl, (Below.refl _ _).alloc (Nat.le_refl _) _⟩
  · have hcv : (convert 105 9 (.slice (some ⟨w.heap.size, 0, none⟩) 1 1)).run Tryz.prog (w.alloc (.cells #[.int .u8 49] 5)) = .ok (.string (S [49])) (w.alloc (.cells #[.int .u8 49] 5)) := conv_one w 49
    go_enter Tryz.func212, Tryz.ntmps212
    go_wp2_with fail
    go_ret
    exact ⟨rfl, (Below.refl _ _).alloc (Nat.le_refl _) _⟩
  · have hcv : (convert 105 9 (.slice (some ⟨w.heap.size, 0, none⟩) 1 1)).run Tryz.prog (w.alloc (.cells #[.int .u8 50] 5)) = .ok (.string (S [50])) (w.alloc (.cells #[.int .u8 50] 5)) := conv_one w 50
    go_enter Tryz.func212, Tryz.ntmps212
    go_wp2_with fail
    go_ret
    exact ⟨rfl, (Below.refl _ _).alloc (Nat.le_refl _) _⟩
  · have hcv : (convert 105 9 (.slice (some ⟨w.heap.size, 0, none⟩) 1 1)).run Tryz.prog (w.alloc (.cells #[.int .u8 51] 5)) = .ok (.string (S [51])) (w.alloc (.cells #[.int .u8 51] 5)) := conv_one w 51
    go_enter Tryz.func212, Tryz.ntmps212
    go_wp2_with fail
    go_ret
    exact ⟨rfl, (Below.refl _ _).alloc (Nat.le_refl _) _⟩
  · have hcv : (convert 105 9 (.slice (some ⟨w.heap.size, 0, none⟩) 1 1)).run Tryz.prog (w.alloc (.cells #[.int .u8 52] 5)) = .ok (.string (S [52])) (w.alloc (.cells #[.int .u8 52] 5)) := conv_one w 52
    go_enter Tryz.func212, Tryz.ntmps212
    go_wp2_with fail
    go_ret
    exact ⟨rfl, (Below.refl _ _).alloc (Nat.le_refl _) _⟩
  · have hcv : (convert 105 9 (.slice (some ⟨w.heap.size, 0, none⟩) 1 1)).run Tryz.prog (w.alloc (.cells #[.int .u8 53] 5)) = .ok (.string (S [53])) (w.alloc (.cells #[.int .u8 53] 5)) := conv_one w 53
    go_enter Tryz.func212, Tryz.ntmps212
    go_wp2_with fail
    go_ret
    exact ⟨rfl, (Below.refl _ _).alloc (Nat.le_refl _) _⟩
  · have hcv : (convert 105 9 (.slice (some ⟨w.heap.size, 0, none⟩) 1 1)).run Tryz.prog (w.alloc (.cells #[.int .u8 54] 5)) = .ok (.string (S [54])) (w.alloc (.cells #[.int .u8 54] 5)) := conv_one w 54
    go_enter Tryz.func212, Tryz.ntmps212
    go_wp2_with fail
    go_ret
    exact ⟨rfl, (Below.refl _ _).alloc (Nat.le_refl _) _⟩
  · have hcv : (convert 105 9 (.slice (some ⟨w.heap.size, 0, none⟩) 1 1)).run Tryz.prog (w.alloc (.cells #[.int .u8 55] 5)) = .ok (.string (S [55])) (w.alloc (.cells #[.int .u8 55] 5)) := conv_one w 55
    go_enter Tryz.func212, Tryz.ntmps212
    go_wp2_with fail
    go_ret
    exact ⟨rfl, (Below.refl _ _).alloc (Nat.le_refl _) _⟩
  · have hcv : (convert 105 9 (.slice (some ⟨w.heap.size, 0, none⟩) 1 1)).run Tryz.prog (w.alloc (.cells #[.int .u8 56] 5)) = .ok (.string (S [56])) (w.alloc (.cells #[.int .u8 56] 5)) := conv_one w 56
    go_enter Tryz.func212, Tryz.ntmps212
    go_wp2_with fail
    go_ret
    exact ⟨rfl, (Below.refl _ _).alloc (Nat.le_refl _) _⟩
  · have hcv : (convert 105 9 (.slice (some ⟨w.heap.size, 0, none⟩) 1 1)).run Tryz.prog (w.alloc (.cells #[.int .u8 57] 5)) = .ok (.string (S [57])) (w.alloc (.cells #[.int .u8 57] 5)) := conv_one w 57
    go_enter Tryz.func212, Tryz.ntmps212
    go_wp2_with fail
    go_ret
    exact ⟨rfl, (Below.refl _ _).alloc (Nat.le_refl _) _⟩
theorem dg_len (n : Nat) : (dg n).length ≤ n + 1 := by
  induction n using Nat.strongRecOn with
  | ind n ih =>
    rcases Nat.lt_or_ge n 10 with h | h
    · rw [dg_small h]; simp
    · rw [dg_big h, List.length_append, dg_small (n := n % 10) (by omega)]
      have := ih (n / 10) (by omega)
      simp only [List.length_cons, List.length_nil]; omega
set_option maxHeartbeats 1600000 in
set_option maxRecDepth 100000 in
theorem Decimal_nat (n : Nat) : n ≤ 1000000 → ∀ w : World,
    Calls Tryz.prog 212 #[.int .i64 n] w fun e w' => e = .returned (.string (S (dg n))) ∧ Below w.heap.size w w' := by
  induction n using Nat.strongRecOn with
  | ind n ih =>
    intro hn w
    rcases Nat.lt_or_ge n 10 with h | h
    · exact Decimal_digit n h w
    · have H1 := Lib.hid (fun W => ih (n / 10) (by omega) (by omega) W)
      have H2 := Lib.hid (fun W => Decimal_digit (n % 10) (by omega) W)
      have l1 := dg_len (n / 10); have l2 := dg_len (n % 10)
      have hst : S (dg n) = S (dg (n / 10)) ++ S (dg (n % 10)) := by
        rw [dg_big h]; symm; exact S_inj (by simp)
      have HS := Lib.hid hst
      have e1 : (n : Int) / 10 = ((n / 10 : Nat) : Int) := by omega
      have e2 : (n : Int) % 10 = ((n % 10 : Nat) : Int) := by omega
      have E1 := Lib.hid e1; have E2 := Lib.hid e2
      clear ih hst e1 e2
      go_enter Tryz.func212, Tryz.ntmps212
      go_wp2_with fail
      (try rw [E1.out])
      refine (H1.out _).mono ?_
      rintro e w1 ⟨rfl, h1⟩
      go_wp2_with fail
      (try rw [E2.out])
      refine (H2.out _).mono ?_
      rintro e w2 ⟨rfl, h2⟩
      go_wp2_with fail
      go_ret
      exact ⟨ret_str HS.out.symm, bstep h1 h2⟩
set_option maxHeartbeats 800000 in
set_option maxRecDepth 100000 in
theorem Decimal_any (n : Int) (w : World) (hn0 : -1000000 ≤ n) (hn : n ≤ 1000000) :
    Calls Tryz.prog 212 #[.int .i64 n] w fun e w' => e = .returned (.string (S (dint n))) ∧ Below w.heap.size w w' := by
  by_cases h : n < 0
  · obtain ⟨k, hk⟩ : ∃ k : Nat, n = -(k : Int) := ⟨n.natAbs, by omega⟩
    subst hk
    have H := Lib.hid (fun W => Decimal_nat k (by omega) W)
    have hl := dg_len k
    have hst : S (dint (-(k : Int))) = ⟨#[45]⟩ ++ S (dg k) := by
      unfold dint; rw [if_pos h, Int.natAbs_neg, Int.natAbs_natCast]; symm; exact S_inj (by simp)
    have HS := Lib.hid hst
    have E1 := Lib.hid (show - -(k : Int) = (k : Int) by omega)
    clear hst
    go_enter Tryz.func212, Tryz.ntmps212
    go_wp2_with fail
    (try rw [E1.out])
    refine (H.out _).mono ?_
    rintro e w1 ⟨rfl, h1⟩
    go_wp2_with fail
    go_ret
    exact ⟨ret_str HS.out.symm, h1⟩
  · obtain ⟨k, hk⟩ : ∃ k : Nat, n = (k : Int) := ⟨n.natAbs, by omega⟩
    subst hk
    have := Decimal_nat k (by omega) w
    unfold dint
    rw [if_neg h, Int.natAbs_natCast]
    exact this
end Go.Proofs.YtmhoacnbmbhcjaaGreatDoor

namespace Go.Proofs.YtmhoacnbmbhcjaaGreatDoor
open Go.RowKit Pl

/-- the names of the operations -/
def nms : List (List UInt8) := [[115, 101, 116], [109, 111, 118, 101], [99, 111, 110, 115], [104, 101, 97, 100], [116, 97, 105, 108], [106, 117, 109, 112]]
def nm (op : Int) : List UInt8 := nms.getD op.toNat []
def textOf (x : Ins) : List UInt8 :=
  nm x.op ++ [32] ++ dint x.a ++ (if x.op = 0 then [32] ++ x.tree else if x.op = 2 then [32] ++ dint x.b ++ [32] ++ dint x.c else [32] ++ dint x.b)
theorem dint_len (n : Int) : (dint n).length ≤ n.natAbs + 2 := by
  have := dg_len n.natAbs
  unfold dint; split <;> simp <;> omega
theorem names_any (w : World) :
    Calls Tryz.prog 165 #[] w fun e w' => e = .returned (.slice (some ⟨w.heap.size, 0, none⟩) 6 6) ∧ w' = w.alloc (.cells #[.string ⟨#[115, 101, 116]⟩, .string ⟨#[109, 111, 118, 101]⟩, .string ⟨#[99, 111, 110, 115]⟩, .string ⟨#[104, 101, 97, 100]⟩, .string ⟨#[116, 97, 105, 108]⟩, .string ⟨#[106, 117, 109, 112]⟩] 9) := by
  go_enter Tryz.func165, Tryz.ntmps165
  go_wp2
  go_ret
  exact ⟨rfl, rfl⟩
theorem names_at (w : World) :
    Calls Tryz.prog 165 #[] w fun e w' => e = .returned (.slice (some ⟨w.heap.size, 0, none⟩) 6 6) ∧ Below w.heap.size w w' ∧ w'.heap.size = w.heap.size + 1 ∧
      w'.cell? ⟨w.heap.size, 0, none⟩ = some (.string ⟨#[115, 101, 116]⟩) ∧ w'.cell? ⟨w.heap.size, 1, none⟩ = some (.string ⟨#[109, 111, 118, 101]⟩) ∧ w'.cell? ⟨w.heap.size, 2, none⟩ = some (.string ⟨#[99, 111, 110, 115]⟩) ∧ w'.cell? ⟨w.heap.size, 3, none⟩ = some (.string ⟨#[104, 101, 97, 100]⟩) ∧ w'.cell? ⟨w.heap.size, 4, none⟩ = some (.string ⟨#[116, 97, 105, 108]⟩) ∧ w'.cell? ⟨w.heap.size, 5, none⟩ = some (.string ⟨#[106, 117, 109, 112]⟩) := by
  refine (names_any w).mono ?_
  rintro e w1 ⟨rfl, rfl⟩
  refine ⟨rfl, (Below.refl _ _).alloc (Nat.le_refl _) _, by simp, ?_⟩
  simp only [World.cell?, heap_alloc_new]
  exact ⟨rfl, rfl, rfl, rfl, rfl, rfl⟩
theorem cell_eq {W : World} {k k' o : Nat} {v : Value} (h : W.cell? ⟨k, o, none⟩ = some v) (e : k = k') : W.cell? ⟨k', o, none⟩ = some v := by rw [← e]; exact h
theorem keep01 {W w1 : World} {B : Nat} {u v : Value} (h : Below W.heap.size W w1) (hB : B < W.heap.size) (hc : W.cell? ⟨B, 0, none⟩ = some u ∧ W.cell? ⟨B, 1, none⟩ = some v) :
    w1.cell? ⟨B, 0, none⟩ = some u ∧ w1.cell? ⟨B, 1, none⟩ = some v := ⟨by rw [h.cell (p := ⟨B, 0, none⟩) hB]; exact hc.1, by rw [h.cell (p := ⟨B, 1, none⟩) hB]; exact hc.2⟩
theorem names_k (k : Nat) (hk : k < 6) (w : World) :
    Calls Tryz.prog 165 #[] w fun e w' => e = .returned (.slice (some ⟨w.heap.size, 0, none⟩) 6 6) ∧ Below w.heap.size w w' ∧ w'.heap.size = w.heap.size + 1 ∧
      w'.cell? ⟨w.heap.size, k, none⟩ = some (.string (S (nms.getD k []))) := by
  refine (names_at w).mono ?_
  rintro e w1 ⟨rfl, h1, h2, n0, n1, n2, n3, n4, n5⟩
  refine ⟨rfl, h1, h2, ?_⟩
  have h : k = 0 ∨ k = 1 ∨ k = 2 ∨ k = 3 ∨ k = 4 ∨ k = 5 := by omega
  rcases h with rfl | rfl | rfl | rfl | rfl | rfl
  · exact n0
  · exact n1
  · exact n2
  · exact n3
  · exact n4
  · exact n5
theorem nms_len (k : Nat) : (nms.getD k []).length ≤ 4 := by
  rcases Nat.lt_or_ge k 6 with h | h
  · have h : k = 0 ∨ k = 1 ∨ k = 2 ∨ k = 3 ∨ k = 4 ∨ k = 5 := by omega
    rcases h with rfl | rfl | rfl | rfl | rfl | rfl <;> decide
  · rw [List.getD_eq_getElem?_getD, List.getElem?_eq_none (by simpa [nms] using h)]; simp

set_option maxHeartbeats 3200000 in
set_option maxRecDepth 100000 in
theorem TextOf_k (k : Nat) (a b c : Int) (t : List UInt8) (w : World) (hk : k < 6) (ha0 : -1000000 ≤ a) (ha : a ≤ 1000000) (hb0 : -1000000 ≤ b) (hb : b ≤ 1000000) (hc0 : -1000000 ≤ c) (hc : c ≤ 1000000) (ht : t.length ≤ 2000000) :
    Calls Tryz.prog 167 #[.agg #[.int .i64 k, .int .i64 a, .int .i64 b, .int .i64 c, .string (S t)]] w fun e w' => e = .returned (.string (S (textOf ⟨k, a, b, c, t⟩))) ∧ Below w.heap.size w w' := by
  have HN := Lib.hid (fun W => names_k k hk W)
  have HA := Lib.hid (fun W => Decimal_any a W ha0 ha)
  have HB := Lib.hid (fun W => Decimal_any b W hb0 hb)
  have HC := Lib.hid (fun W => Decimal_any c W hc0 hc)
  have la := dint_len a; have lb := dint_len b; have lc := dint_len c
  have la2 : (dint a).length ≤ 1000002 := by omega
  have lb2 : (dint b).length ≤ 1000002 := by omega
  have lc2 : (dint c).length ≤ 1000002 := by omega
  have ln := nms_len k
  have HS : Hid (textOf ⟨k, a, b, c, t⟩ = nms.getD k [] ++ [32] ++ dint a ++ (if (k : Int) = 0 then [32] ++ t else if (k : Int) = 2 then [32] ++ dint b ++ [32] ++ dint c else [32] ++ dint b)) := Lib.hid (by simp [textOf, nm])
  generalize dint a = da at *
  generalize dint b = db at *
  generalize dint c = dc at *
  generalize nms.getD k [] = nk at *
  have i0 : (0 : Int) ≤ (k : Int) := by omega
  have i1 : (k : Int) < 6 := by omega
  clear la lb lc ha0 ha hb0 hb hc0 hc hk
  go_enter Tryz.func167, Tryz.ntmps167
  have hx := boxed (Below.refl (w.alloc (.cells #[.int .i64 k, .int .i64 a, .int .i64 b, .int .i64 c, .string (S t)] 64)).heap.size (w.alloc (.cells #[.int .i64 k, .int .i64 a, .int .i64 b, .int .i64 c, .string (S t)] 64)))
  go_upto_region 1 with fail
  go_cut [3] (fun s3 wx => s3 = .string (S (nk ++ [32] ++ da)) ∧ Below w.heap.size w wx ∧ w.heap.size < wx.heap.size ∧ wx.cell? ⟨w.heap.size, 0, none⟩ = some (.int .i64 k) ∧ wx.cell? ⟨w.heap.size, 2, none⟩ = some (.int .i64 b) ∧ wx.cell? ⟨w.heap.size, 3, none⟩ = some (.int .i64 c) ∧ wx.cell? ⟨w.heap.size, 4, none⟩ = some (.string (S t)))
  case first =>
    have l1 : ¬ 9223372036854775807 < nk.length + 1 := by omega
    have l2 : ¬ 9223372036854775807 < nk.length + 1 + da.length := by omega
    go_region_with (first
      | (go_at_call 165; refine (HN.out _).mono ?_; rintro e w1 ⟨rfl, h1, z1, n0⟩; have m0 := cell_eq n0 (show _ = w.heap.size + 1 by simp); clear n0; have q0 := cell_keep h1 hx.1; have q1 := cell_keep h1 hx.2.1)
      | (go_at_call 212; (with_reducible refine (HA.out _).mono ?_); rintro e w2 ⟨rfl, h2⟩; have m := cell_keep h2 m0; have q2 := cell_keep h2 q0))
    all_goals (
      have hb1 := ((Below.refl (w.alloc (.cells #[.int .i64 k, .int .i64 a, .int .i64 b, .int .i64 c, .string (S t)] 64)).heap.size (w.alloc (.cells #[.int .i64 k, .int .i64 a, .int .i64 b, .int .i64 c, .string (S t)] 64))).drew).trans h1
      have hb2 := bstep hb1 h2
      have hcs := boxed hb2
      have hbb : Below w.heap.size w w2 := bstep ((Below.refl _ w).alloc (Nat.le_refl _) _) hb2
      have hzz : w.heap.size < w2.heap.size := by have := hb2.size; simp at this; omega
      go_wp2_with fail
      go_meet
      exact ⟨congrArg Value.string (S_inj (by simp)), hbb, hzz, hcs.1, hcs.2.2.1, hcs.2.2.2.1, hcs.2.2.2.2⟩)
  case rest =>
    obtain ⟨rfl, hb, hzz, c0, c2, c3, c4⟩ := hcut
    have hl3 : (nk ++ [32] ++ da).length ≤ 2000000 := by simp; omega
    by_cases h0 : k = 0
    · subst h0
      have HS2 : Hid (textOf ⟨((0 : Nat) : Int), a, b, c, t⟩ = nk ++ [32] ++ da ++ ([32] ++ t)) := Lib.hid (HS.out.trans (by simp))
      generalize nk ++ [32] ++ da = pre at *
      clear HS
      go_wp2_with fail
      go_ret
      exact ⟨ret_str (by rw [HS2.out]; exact S_inj (by simp)), hb⟩
    · by_cases h2 : k = 2
      · subst h2
        have HS2 : Hid (textOf ⟨((2 : Nat) : Int), a, b, c, t⟩ = nk ++ [32] ++ da ++ ([32] ++ db ++ [32] ++ dc)) := Lib.hid (HS.out.trans (by simp))
        generalize nk ++ [32] ++ da = pre at *
        have l1 : ¬ 9223372036854775807 < pre.length + 1 := by omega
        have l2 : ¬ 9223372036854775807 < pre.length + 1 + db.length := by omega
        have l3 : ¬ 9223372036854775807 < pre.length + 1 + db.length + 1 := by omega
        have l4 : ¬ 9223372036854775807 < pre.length + 1 + db.length + 1 + dc.length := by omega
        clear HS
        go_wp2_with fail
        go_region_held3 (fun w' => w'.cell? ⟨w.heap.size, 2, none⟩ = some (.int .i64 b) ∧ w'.cell? ⟨w.heap.size, 3, none⟩ = some (.int .i64 c))
          (first
            | go_keep
            | assumption
            | exact keep2 h2 (by exact hzz) (by assumption)
            | exact keep2 h3 (by exact Nat.lt_of_lt_of_le hzz h2.size) (by assumption))
          (first
            | (go_at_call 212; (with_reducible refine (HB.out _).mono ?_); rintro e w2 ⟨rfl, h2⟩)
            | (go_at_call 212; (with_reducible refine (HC.out _).mono ?_); rintro e w3 ⟨rfl, h3⟩))
        go_wp2_with fail
        go_ret
        exact ⟨ret_str (by rw [HS2.out]; exact S_inj (by simp)), hb.drew.trans ((bstep h2 h3).mono hb.size)⟩
      · have o0 : ((k : Int) == 0) = false := beq_eq_false_iff_ne.2 (by omega)
        have o2 : ((k : Int) == 2) = false := beq_eq_false_iff_ne.2 (by omega)
        have HS2 : Hid (textOf ⟨(k : Int), a, b, c, t⟩ = nk ++ [32] ++ da ++ ([32] ++ db)) := Lib.hid (HS.out.trans (by rw [if_neg (by omega), if_neg (by omega)]))
        generalize nk ++ [32] ++ da = pre at *
        clear HS h0 h2
        go_wp2_with fail
        refine (HB.out _).mono ?_
        rintro e w2 ⟨rfl, h2⟩
        go_wp2_with fail
        go_ret
        exact ⟨ret_str (by rw [HS2.out]; exact S_inj (by simp)), hb.trans (h2.mono hb.size)⟩
theorem right_op {x : Ins} {i n : Int} (h : right x i n = true) : ∃ k : Nat, x.op = (k : Int) ∧ k < 6 := by
  obtain ⟨_, hc⟩ := right_cases h
  refine ⟨x.op.toNat, ?_, ?_⟩ <;> omega
theorem right_tree_len {x : Ins} {i n : Int} (h : right x i n = true) : x.tree.length ≤ 2000000 := right_tree_le h
theorem TextOf_any (x : Ins) (i n : Int) (w : World) (hr : right x i n = true) (hi0 : 0 ≤ i) (hi1 : i ≤ 4000) (hn1 : n ≤ 4000) :
    Calls Tryz.prog 167 #[x.agg] w fun e w' => e = .returned (.string (S (textOf x))) ∧ Below w.heap.size w w' := by
  obtain ⟨⟨a0, a1⟩, ⟨b0, b1⟩, ⟨c0, c1⟩, _⟩ := right_small hr hi0 hi1 hn1
  have ht := right_tree_len hr
  obtain ⟨k, hk, hk6⟩ := right_op hr
  obtain ⟨op, a, b, c, t⟩ := x
  simp only at hk a0 a1 b0 b1 c0 c1 ht
  subst hk
  exact TextOf_k k a b c t w hk6 (by omega) (by omega) (by omega) (by omega) (by omega) (by omega) ht
theorem TO_step (x : Ins) (k n : Nat) (hk : k ≤ 4000) (hn : n ≤ 4000) (hv : right x k n = true) (W : World) :
    Calls Tryz.prog 167 #[.agg #[.int .i64 x.op, .int .i64 x.a, .int .i64 x.b, .int .i64 x.c, .string (S x.tree)]] W fun e w' => e = .returned (.string (S (textOf x))) ∧ Below W.heap.size W w' :=
  TextOf_any x k n W hv (by omega) (by omega) (by omega)
theorem textOf_len {x : Ins} {i n : Int} (h : right x i n = true) (hi0 : 0 ≤ i) (hi : i ≤ 4000) (hn : n ≤ 4000) : (textOf x).length ≤ 5000 + x.tree.length := by
  obtain ⟨⟨a0, a1⟩, ⟨b0, b1⟩, ⟨c0, c1⟩, _⟩ := right_small h hi0 hi hn
  have la := dint_len x.a; have lb := dint_len x.b; have lc := dint_len x.c
  have ln := nms_len x.op.toNat
  unfold textOf nm
  (repeat' split) <;> simp only [List.length_append, List.length_cons, List.length_nil] <;> omega
end Go.Proofs.YtmhoacnbmbhcjaaGreatDoor

namespace Go.Proofs.YtmhoacnbmbhcjaaGreatDoor
open Go.RowKit Pl

theorem wpList_app_str {P : Program} {w : World} {ops : Array Oper} {rest : List Oper} {o : Oper} {a : Act} {Q : Exit → Act → World → Prop} (hgd : o.guard = none) (sl x : Operand) (t u : TypeId)
    (ho : o.op = .call { callee := .builtin .append, args := #[sl, x], argTypes := #[t, u] })
    (base : Nat) (e : TypeId) (i : TypeInfo) (ht : P.underlying t = some (.slice e)) (hu : P.underlying u = some .string) (hi : P.info? e = some i) (hz : i.zero = some (.int .u8 0))
    (hsize : i.size = 1) (hby : i.bytes = 1)
    (v : Value) (n : Nat) (xs : List Value) (hs : a.eval sl = v) (hown : w.ownsRow base e 1 v n xs) (s : ByteArray) (hx : a.eval x = .string s)
    (h63 : n + s.size ≤ maxLen) (hbytes : n + s.size ≤ 140737488355328) (hbase : base ≤ w.heap.size)
    (h : ∀ v' w', w'.ownsRow base e 1 v' (n + s.size) (xs ++ Lib.strCells s) → w.grownBy w' v.ownBlock → wpList P ops Q rest (a.put o.dst v') w') :
    wpList P ops Q (o :: rest) a w := by
  refine wpList_plain hgd fun K hK => ?_
  obtain ⟨v', w', hr, h2, h3, _⟩ := Lib.run_append_own_string (P := P) (w := w) base t u o.type e i ht hu hi hz hsize hby v n xs hown s h63 hbytes hbase
  unfold Oper.wp execOp
  simp only [ho, resolve, invoke, builtin, Sem.run_bind, Sem.run_pure, Result.andThen_ok, List.map_toArray, List.map_cons, List.map_nil, hs, hx, hr]
  exact hK _ _ (h v' w' h2 h3)
theorem app_below2 {B : Nat} {w wr w1 : World} {e : TypeId} {size : Nat} {v : Value} {n : Nat} {xs : List Value} (hnx : Below B w wr) (hB : B ≤ wr.heap.size) (hown : wr.ownsRow B e size v n xs) (hgrow : wr.grownBy w1 v.ownBlock) : Below B w w1 :=
  hnx.grown hgrow hB (fun g h => (hown.lt g h).1)

/-- the text of the first k instructions -/
def txtTo (ps : List Ins) : Nat → List UInt8
  | 0 => []
  | k + 1 => match ps[k]? with
    | some x => txtTo ps k ++ (if 0 < k then [59, 32] else []) ++ textOf x
    | none => txtTo ps k
def txt (ps : List Ins) : List UInt8 := txtTo ps ps.length
theorem txtTo_succ {ps : List Ins} {k : Nat} {x : Ins} (h : ps[k]? = some x) : txtTo ps (k + 1) = txtTo ps k ++ (if 0 < k then [59, 32] else []) ++ textOf x := by
  simp [txtTo, h]
theorem txtTo_len {ps : List Ins} (hm : ps.length ≤ 4000) (hr : AllR ps) : ∀ k, (txtTo ps k).length ≤ k * 5002 + treesTo ps k := by
  intro k
  induction k with
  | zero => simp [txtTo]
  | succ k ih =>
    rcases Nat.lt_or_ge k ps.length with h | h
    · obtain ⟨x, hx⟩ := get_at h
      have h1 := textOf_len (hr k x hx) (by omega) (by omega) (by omega)
      rw [txtTo_succ hx, treesTo_succ hx]
      simp only [List.length_append]
      split <;> simp only [List.length_cons, List.length_nil] <;> omega
    · have h1 : ps[k]? = none := List.getElem?_eq_none h
      have h2 : treesTo ps (k + 1) = treesTo ps k := by rw [treesTo_all (by omega), treesTo_all h]
      have h3 : txtTo ps (k + 1) = txtTo ps k := by simp [txtTo, h1]
      rw [h2, h3]; exact Nat.le_trans ih (Nat.add_le_add_right (Nat.mul_le_mul_right _ (Nat.le_succ k)) _)
theorem textOf_pos (x : Ins) : 0 < (textOf x).length := by unfold textOf; simp only [List.length_append, List.length_cons]; omega

set_option maxHeartbeats 3200000 in
set_option maxRecDepth 100000 in
theorem Text_some (w : World) (b off cap : Nat) (ps : List Ins) (hc : ProgAt w b off ps) (hp : 0 < ps.length) (hm : ps.length ≤ 4000) (hr : AllR ps) (ht : trees ps ≤ 2000000) :
    Calls Tryz.prog 117 #[.slice (some ⟨b, off, none⟩) ps.length cap] w fun e w' => e = .returned (.string (S (txt ps))) ∧ Below w.heap.size w w' := by
  obtain ⟨i0, hi, hz0, hz1, hz2⟩ := info_parts Tryz.infoByte
  have HR : Hid (∀ (k : Nat) (x : Ins), ps[k]? = some x → right x k ps.length = true) := Lib.hid hr
  have HL : Hid (∀ k, k ≤ 4000 → (txtTo ps k).length ≤ 30000000) := Lib.hid (fun k hk => by
    have h1 := txtTo_len hm hr k
    have h2 := treesTo_top (ps := ps) k
    omega)
  have HTL : Hid (∀ (k : Nat) (x : Ins), ps[k]? = some x → (textOf x).length ≤ 3000000) := Lib.hid (fun k x hx => by
    have h1 := textOf_len (hr k x hx) (by omega) (by have := (List.getElem?_eq_some_iff.1 hx).1; omega) (by omega)
    have h2 := right_tree_len (hr k x hx)
    omega)
  have HTX : Hid (txtTo ps ps.length = txt ps) := Lib.hid rfl
  have HPOS : Hid (0 < (txt ps).length) := Lib.hid (by
    obtain ⟨k, hk⟩ : ∃ k, ps.length = k + 1 := ⟨ps.length - 1, by omega⟩
    obtain ⟨x, hx⟩ := get_at (ps := ps) (k := k) (by omega)
    unfold txt; rw [hk, txtTo_succ hx]
    have := textOf_pos x
    simp only [List.length_append]; omega)
  generalize hnn : ps.length = n at *
  have HN := Lib.hid hnn; have HC := Lib.hid hc
  clear hc ht hr hnn
  go_enter Tryz.func117, Tryz.ntmps117
  go_wp2
  go_loopw [3, 4] (fun v i wr => ∃ k : Nat, k ≤ n ∧ i = .int .i64 k ∧ wr.ownsRow w.heap.size 5 1 v (txtTo ps k).length (Lib.byteCells (txtTo ps k)) ∧ Below w.heap.size w wr) (fun _ i _ => n - (intOf i).toNat)
  case atStart => exact ⟨0, Nat.zero_le _, rfl, World.ownsRow_nil _ _ _ _, Below.refl _ _⟩
  case round =>
    obtain ⟨k, hk, rfl, hown, hb⟩ := hrel
    have hsz := hb.size
    have hlk := HL.out k (by omega)
    by_cases hlt : k < n
    · obtain ⟨x, hx⟩ := get_at (ps := ps) (k := k) (by rw [HN.out]; exact hlt)
      have HQ := Lib.hid (TO_step x k n (by omega) hm (HR.out k x hx))
      have hxl := HTL.out k x hx
      have HT := Lib.hid (txtTo_succ hx)
      have HXX := Lib.hid hx
      clear hx
      generalize textOf x = tx at *
      by_cases h0 : 0 < k
      · have HT2 : Hid (txtTo ps (k + 1) = txtTo ps k ++ [59, 32] ++ tx) := Lib.hid (by rw [HT.out, if_pos h0])
        clear HT
        generalize txtTo ps k = l at *
        have k0 : (0 : Int) < (k : Int) := by omega
        go_wp2_with (at_builtin; refine wpList_app_str rfl _ _ 105 9 rfl w.heap.size 5 i0 Tryz.underlying105 Tryz.underlying9 hi hz0 hz1 hz2 _ _ _ rfl hown ⟨#[59, 32]⟩ rfl ?c1 ?c2 hsz ?_)
        case c1 => have h2 : (⟨#[59, 32]⟩ : ByteArray).size = 2 := rfl; rw [h2]; unfold maxLen; omega
        case c2 => have h2 : (⟨#[59, 32]⟩ : ByteArray).size = 2 := rfl; rw [h2]; omega
        intro v1 w1 hown1 hgrow1
        have hb1 := app_below2 hb hsz hown hgrow1
        have hsz1 := hb1.size
        have hown1' : w1.ownsRow w.heap.size 5 1 v1 (l.length + 2) (Lib.byteCells (l ++ [59, 32])) := by
          rw [Lib.byteCells_append]; exact hown1
        obtain ⟨c0, c1, c2, c3, c4⟩ := (HC.out.below hb1).2 k x HXX.out
        clear hown hgrow1 hown1
        go_wp2_with fail
        refine (HQ.out _).mono ?_
        rintro e w2 ⟨rfl, h2⟩
        have hown2 := own_keep hown1' h2
        have hb2 := hb1.trans (h2.mono hsz1)
        have hsz2 := hb2.size
        go_wp2_with (at_builtin; refine wpList_app_str rfl _ _ 105 9 rfl w.heap.size 5 i0 Tryz.underlying105 Tryz.underlying9 hi hz0 hz1 hz2 _ _ _ rfl hown2 (S tx) rfl ?c1 ?c2 hsz2 ?_)
        case c1 => rw [S_size]; unfold maxLen; omega
        case c2 => rw [S_size]; omega
        intro v3 w3 hown3 hgrow3
        have hb3 := app_below2 hb2 hsz2 hown2 hgrow3
        have ho : w3.ownsRow w.heap.size 5 1 v3 (txtTo ps (k + 1)).length (Lib.byteCells (txtTo ps (k + 1))) := by
          have h9 := hown3
          rw [HT2.out, Lib.byteCells_append, List.length_append, List.length_append]
          exact h9
        have HO := Lib.hid ho
        clear ho hown3 hgrow3 hown2 hown1' hb hb1 hb2 c0 c1 c2 c3 c4
        go_wp2
        go_roundw
        case rel => exact ⟨k + 1, by omega, by go_num, HO.out, hb3⟩
        case measure => simp [intOf]; omega
      · have HT2 : Hid (txtTo ps (k + 1) = txtTo ps k ++ tx) := Lib.hid (by rw [HT.out, if_neg h0]; simp)
        clear HT
        generalize txtTo ps k = l at *
        have k0 : ¬ (0 : Int) < (k : Int) := by omega
        obtain ⟨c0, c1, c2, c3, c4⟩ := (HC.out.below hb).2 k x HXX.out
        go_wp2_with fail
        refine (HQ.out _).mono ?_
        rintro e w2 ⟨rfl, h2⟩
        have hown2 := own_keep hown h2
        have hb2 := hb.trans (h2.mono hsz)
        have hsz2 := hb2.size
        go_wp2_with (at_builtin; refine wpList_app_str rfl _ _ 105 9 rfl w.heap.size 5 i0 Tryz.underlying105 Tryz.underlying9 hi hz0 hz1 hz2 _ _ _ rfl hown2 (S tx) rfl ?c1 ?c2 hsz2 ?_)
        case c1 => rw [S_size]; unfold maxLen; omega
        case c2 => rw [S_size]; omega
        intro v3 w3 hown3 hgrow3
        have hb3 := app_below2 hb2 hsz2 hown2 hgrow3
        have ho : w3.ownsRow w.heap.size 5 1 v3 (txtTo ps (k + 1)).length (Lib.byteCells (txtTo ps (k + 1))) := by
          have h9 := hown3
          rw [HT2.out, Lib.byteCells_append, List.length_append]
          exact h9
        have HO := Lib.hid ho
        clear ho hown3 hgrow3 hown2 hown hb hb2 c0 c1 c2 c3 c4
        go_wp2
        go_roundw
        case rel => exact ⟨k + 1, by omega, by go_num, HO.out, hb3⟩
        case measure => simp [intOf]; omega
    · have hkn : k = n := by omega
      have hE : txtTo ps k = txt ps := by rw [← HTX.out, hkn]
      rw [hE] at hown
      have hp0 := HPOS.out
      obtain ⟨g, cap', rfl, hn, hcell⟩ := own_bytes hown hp0
      have hcv := run_convert_bytes_back (P := Tryz.prog) wr 105 9 5 ⟨g, 0, none⟩ cap' (txt ps) Tryz.underlying105 Tryz.underlying5 Tryz.underlying9 hcell
      clear hn hown hcell hE hkn hp0 hlk
      go_wp2
      go_ret
      exact ⟨rfl, hb⟩
set_option maxHeartbeats 800000 in
set_option maxRecDepth 100000 in
theorem Text_none (w : World) (a : Option Addr) (cap : Nat) :
    Calls Tryz.prog 117 #[.slice a 0 cap] w fun e w' => e = .returned (.string (S [])) ∧ Below w.heap.size w w' := by
  have hcv : (convert 105 9 (.slice none 0 0)).run Tryz.prog w = .ok (.string (S [])) w := by
    rw [run_convert_bytes_string w 105 9 5 none 0 0 Tryz.underlying105 Tryz.underlying5 Tryz.underlying9]
    rfl
  go_enter Tryz.func117, Tryz.ntmps117
  go_wp2
  go_loop [3, 4] (fun v i => v = .slice none 0 0 ∧ i = .int .i64 0) (fun _ _ => 0)
  case atStart => exact ⟨rfl, rfl⟩
  case round =>
    obtain ⟨rfl, rfl⟩ := hrel
    go_wp2_with fail
    go_ret
    exact ⟨rfl, Below.refl _ _⟩
theorem Text_arg (w : World) (v : Value) (ps : List Ins) (h : ArgP w v ps) (hv : PValid ps) :
    Calls Tryz.prog 117 #[v] w fun e w' => e = .returned (.string (S (txt ps))) ∧ Below w.heap.size w w' := by
  rcases h with ⟨rfl, h⟩ | ⟨h0, b, off, cap, rfl, hc⟩
  · obtain ⟨a, cap, rfl⟩ := empty_arg h
    exact Text_none w a cap
  · exact Text_some w b off cap ps hc h0 hv.1 hv.2.2 hv.2.1
end Go.Proofs.YtmhoacnbmbhcjaaGreatDoor
