/- The reference's Decode. By an AI agent. -/
import Derived.Test.YtlfoigkpfooopaaGreatDoorRegs
namespace Go.Proofs.YtlfoigkpfooopaaGreatDoor
open Go.RowKit Pl

/-- the instruction that a tree is read as -/
def decr (op a : Int) (r : List UInt8) : Ins :=
  if op = 0 then ⟨op, a, 0, 0, r⟩
  else if op = 1 ∨ op = 3 ∨ op = 4 then ⟨op, a, val r, 0, []⟩
  else if op = 2 then ⟨op, a, val (hd r), val (tl r), []⟩
  else if op = 5 then ⟨op, a, if hd r = [48] then val (tl r) else -val (tl r), 0, []⟩
  else ⟨op, a, 0, 0, []⟩
def dec (it : List UInt8) : Ins := decr (val (hd it)) (val (hd (tl it))) (tl (tl it))
def decs (ls : List (List UInt8)) : List Ins := ls.map dec
theorem decs_len (ls : List (List UInt8)) : (decs ls).length = ls.length := by simp [decs]
theorem decs_take {ls : List (List UInt8)} {k : Nat} (h : k < ls.length) : decs (ls.take (k + 1)) = decs (ls.take k) ++ [dec (ls.getD k [])] := by
  unfold decs
  rw [List.take_succ_eq_append_getElem h, List.map_append]; simp [List.getD, h]
theorem val_ge (l : List UInt8) : -1 ≤ val l := by unfold val; split <;> omega
theorem val_le (l : List UInt8) : val l ≤ l.length := by unfold val; split <;> omega

theorem cells_one (x : Ins) : ∀ u ∈ x.cells, u.oneCell' = true := by
  have := progV_oneCell [x]
  rwa [progV_one] at this

theorem news_second (wr : World) (o : Obj) (x : Ins) (ty : TypeId) : ∀ t u, x.cells[t]? = some u → ((wr.alloc o).alloc (.cells x.cells.toArray ty)).cell? ((⟨wr.heap.size + 1, 0, none⟩ : Addr).add t) = some u := by
  have h := World.news_of_block (heap_alloc_new (wr.alloc o) (Obj.cells x.cells.toArray ty))
  rw [show (wr.alloc o).heap.size = wr.heap.size + 1 from by simp] at h
  intro t u ht
  exact h t u (by simpa using ht)
theorem dHead (l : List UInt8) (h : vld l = true) (W : World) : Calls Tryz.prog 44 #[.string (S l)] W fun e w' => e = .returned (.string (S (hd l))) ∧ W = w' := rHead_yes (S l) W h
theorem dTail (l : List UInt8) (h : vld l = true) (W : World) : Calls Tryz.prog 42 #[.string (S l)] W fun e w' => e = .returned (.string (S (tl l))) ∧ W = w' := rTail_yes (S l) W h
theorem dValue (l : List UInt8) (h : vld l = true) (W : World) : Calls Tryz.prog 43 #[.string (S l)] W fun e w' => e = .returned (.int .i64 (val l)) ∧ W = w' :=
  rValue_any (S l) W (by rw [S_size]; have := (vld_iff.1 h).1; omega)

theorem PV_arg (w : World) (v : Value) (ps : List Ins) (b : Bool) (h : ArgP w v ps) (hl : ps.length ≤ 281474976710656) (hz : ∀ x ∈ ps, x.tree.length ≤ 281474976710656) (hb : b = true ↔ PValid ps) :
    Calls Tryz.prog 14 #[v] w fun e w' => e = .returned (.bool b) ∧ Below w.heap.size w w' := by
  rcases h with ⟨rfl, h⟩ | ⟨h0, b1, off, cap, rfl, hc⟩
  · obtain ⟨a, cap, rfl⟩ := empty_arg h
    have : b = true := hb.2 ⟨by simp, by simp [trees], fun k x h => by simp at h⟩
    subst this
    exact PV_none w a cap
  · rcases Nat.lt_or_ge 4000 ps.length with h1 | h1
    · have : b = false := by cases b with
        | false => rfl
        | true => have := (hb.1 rfl).1; omega
      subst this
      exact PV_long w _ _ cap h1 hl
    · rcases Nat.lt_or_ge 2000000 (trees ps) with h2 | h2
      · have : b = false := by cases b with
          | false => rfl
          | true => have := (hb.1 rfl).2.1; omega
        subst this
        exact PV_trees w b1 off cap ps hc h1 hz h2
      · exact PV_some w b1 off cap ps b hc h1 hz h2 (hb.trans ⟨fun h => h.2.2, fun h => ⟨h1, h2, h⟩⟩)
theorem own_base {w : World} {base base2 n : Nat} {e : TypeId} {size : Nat} {v : Value} {xs : List Value} (h : w.ownsRow base e size v n xs) (hb : base2 ≤ base) : w.ownsRow base2 e size v n xs := by
  refine ⟨h.1, ?_⟩
  rcases h.2 with h | ⟨g, cap, cur, h1, h2, h3⟩
  · exact .inl h
  · exact .inr ⟨g, cap, cur, h1, Nat.le_trans hb h2, h3⟩
theorem decr_tree (op a : Int) (r : List UInt8) : (decr op a r).tree.length ≤ r.length := by
  unfold decr; (repeat' split) <;> simp
theorem dec_tree {it : List UInt8} (h : vld it = true) : (dec it).tree.length ≤ 281474976710656 := by
  have := decr_tree (val (hd it)) (val (hd (tl it))) (tl (tl it))
  have := (vld_iff.1 (vld_hd (vld_hd h).2).2).1
  unfold dec; omega

set_option maxHeartbeats 3200000 in
set_option maxRecDepth 100000 in
theorem Decode_few (s : ByteArray) (w : World) (ok : Bool) (hv : vld s.data.toList = true) (hn0 : 0 < (itemsOf s.data.toList).length) (hn : (itemsOf s.data.toList).length ≤ 4000)
    (hok : ok = true ↔ PValid (decs (itemsOf s.data.toList)) ∧ enc (codes (decs (itemsOf s.data.toList))) = s.data.toList) :
    Calls Tryz.prog 22 #[.string s] w fun e w' => ∃ v, e = .returned (.tuple #[v, .bool ok]) ∧ w'.ownsRow w.heap.size 46 5 v (itemsOf s.data.toList).length (progV (decs (itemsOf s.data.toList))) ∧ Below w.heap.size w w' := by
  obtain ⟨i0, hi, hz0, hz1, hz2⟩ := info_parts Tryz.infoIns
  have HI := Lib.hid (rItems_yes s w hv)
  have hall := items_valid hv
  generalize hls : itemsOf s.data.toList = ls at *
  have HA := Lib.hid hall; have HO := Lib.hid hok
  generalize hnn : ls.length = n at *
  have HN := Lib.hid hnn
  clear hall hok hnn hls
  go_enter Tryz.func22, Tryz.ntmps22
  go_wp2_with fail
  refine HI.out.mono ?_
  rintro e w1 ⟨v, rfl, hown, hb⟩
  obtain ⟨g, cap, rfl, hgn, hg0, hst⟩ := own_strs hown hn0
  have HST := Lib.hid hst; clear hst hown
  rw [← hgn]
  clear hgn
  go_wp2_with fail
  go_loopw [5, 6] (fun v i wr => ∃ k : Nat, k ≤ n ∧ i = .int .i64 k ∧ wr.ownsRow w1.heap.size 46 5 v k (progV (decs (ls.take k))) ∧ Below w1.heap.size w1 wr) (fun _ i _ => n - (intOf i).toNat)
  case atStart => exact ⟨0, Nat.zero_le _, rfl, World.ownsRow_nil _ _ _ _, Below.refl _ _⟩
  case round =>
    obtain ⟨k, hk, rfl, hown, hbw⟩ := hrel
    have hsz := hbw.size
    by_cases hlt : k < n
    · have hcell := (HST.out.below hbw).2 k (by rw [HN.out]; exact hlt)
      rw [Nat.zero_add] at hcell
      have hvi := HA.out (ls.getD k []) (by rw [List.getD_eq_getElem?_getD, List.getElem?_eq_getElem (by rw [HN.out]; exact hlt)]; exact List.getElem_mem _)
      have HT := Lib.hid (decs_take (ls := ls) (k := k) (by rw [HN.out]; exact hlt))
      generalize ls.getD k [] = it at *
      have v1 := vld_hd hvi
      have v2 := vld_hd v1.2
      have v3 := vld_hd v2.2
      have T1 := Lib.hid (dTail it hvi); have H1 := Lib.hid (dHead it hvi); have V1 := Lib.hid (dValue (hd it) v1.1)
      have T2 := Lib.hid (dTail (tl it) v1.2); have H2 := Lib.hid (dHead (tl it) v1.2); have V2 := Lib.hid (dValue (hd (tl it)) v2.1)
      have V3 := Lib.hid (dValue (tl (tl it)) v2.2)
      have T3 := Lib.hid (dTail (tl (tl it)) v2.2); have H3 := Lib.hid (dHead (tl (tl it)) v2.2)
      have V4 := Lib.hid (dValue (hd (tl (tl it))) v3.1); have V5 := Lib.hid (dValue (tl (tl (tl it))) v3.2)
      have u4 := val_ge (tl (tl (tl it))); have u5 := val_le (tl (tl (tl it))); have u6 := (vld_iff.1 v3.2).1
      have u7 : val (tl (tl (tl it))) ≤ 2000000 := by omega
      have HD : Hid (dec it = decr (val (hd it)) (val (hd (tl it))) (tl (tl it))) := Lib.hid rfl
      clear hvi v1 v2 v3 u5 u6
      generalize val (hd it) = op at *
      generalize val (hd (tl it)) = a at *
      generalize hd it = hit at *
      generalize hd (tl it) = ha at *
      generalize tl (tl it) = r at *
      generalize tl it = tit at *
      by_cases h0 : op = 0
      · subst h0
        have HX : Hid (dec it = ⟨0, a, 0, 0, r⟩) := Lib.hid (by rw [HD.out]; simp [decr])
        go_wp2_with (first
          | (go_at_call 42; (with_reducible refine (T1.out _).mono ?_); rintro e w2 ⟨rfl, rfl⟩)
          | (go_at_call 42; (with_reducible refine (T2.out _).mono ?_); rintro e w2 ⟨rfl, rfl⟩)
          | (go_at_call 42; (with_reducible refine (T3.out _).mono ?_); rintro e w2 ⟨rfl, rfl⟩)
          | (go_at_call 44; (with_reducible refine (H1.out _).mono ?_); rintro e w2 ⟨rfl, rfl⟩)
          | (go_at_call 44; (with_reducible refine (H2.out _).mono ?_); rintro e w2 ⟨rfl, rfl⟩)
          | (go_at_call 44; (with_reducible refine (H3.out _).mono ?_); rintro e w2 ⟨rfl, rfl⟩)
          | (go_at_call 43; (with_reducible refine (V1.out _).mono ?_); rintro e w2 ⟨rfl, rfl⟩)
          | (go_at_call 43; (with_reducible refine (V2.out _).mono ?_); rintro e w2 ⟨rfl, rfl⟩)
          | (go_at_call 43; (with_reducible refine (V3.out _).mono ?_); rintro e w2 ⟨rfl, rfl⟩)
          | (go_at_call 43; (with_reducible refine (V4.out _).mono ?_); rintro e w2 ⟨rfl, rfl⟩)
          | (go_at_call 43; (with_reducible refine (V5.out _).mono ?_); rintro e w2 ⟨rfl, rfl⟩)
          | (at_builtin; refine wpList_append_own _ rfl _ _ 23 rfl w1.heap.size 46 i0 (.agg #[.int .i64 0, .int .i64 0, .int .i64 0, .int .i64 0, .string ⟨#[]⟩]) 5 48 Tryz.underlying23 hi hz0 hz1 hz2 rfl (by decide) _ _ _ rfl ((hown.alloc _).alloc _) ⟨wr.heap.size + 1, 0, none⟩ 1 1 (Ins.cells ⟨0, a, 0, 0, r⟩) rfl rfl ?c1 ?c2 ?c3 ?c4 ?c5 ?_))
        case c1 => exact news_second wr _ ⟨0, a, 0, 0, r⟩ _
        case c2 => exact cells_one _
        case c3 => unfold maxLen; omega
        case c4 => omega
        case c5 => simp; omega
        intro v' w3 hown' hgrow _
        have hb4 := app_below (hbw.alloc hsz _) (by simp; omega) (hown.alloc _) hgrow
        have ho : w3.ownsRow w1.heap.size 46 5 v' (k + 1) (progV (decs (ls.take (k + 1)))) := by
          rw [HT.out, progV_app, progV_one, HX.out]; exact hown'
        have HO3 := Lib.hid ho
        clear ho hown' hgrow hown hbw
        go_wp2
        go_roundw
        case rel => exact ⟨k + 1, by omega, by go_num, HO3.out, hb4⟩
        case measure => simp [intOf]; omega
      by_cases h1 : op = 1
      · subst h1
        have HX : Hid (dec it = ⟨1, a, val r, 0, []⟩) := Lib.hid (by rw [HD.out]; simp [decr])
        go_wp2_with (first
          | (go_at_call 42; (with_reducible refine (T1.out _).mono ?_); rintro e w2 ⟨rfl, rfl⟩)
          | (go_at_call 42; (with_reducible refine (T2.out _).mono ?_); rintro e w2 ⟨rfl, rfl⟩)
          | (go_at_call 42; (with_reducible refine (T3.out _).mono ?_); rintro e w2 ⟨rfl, rfl⟩)
          | (go_at_call 44; (with_reducible refine (H1.out _).mono ?_); rintro e w2 ⟨rfl, rfl⟩)
          | (go_at_call 44; (with_reducible refine (H2.out _).mono ?_); rintro e w2 ⟨rfl, rfl⟩)
          | (go_at_call 44; (with_reducible refine (H3.out _).mono ?_); rintro e w2 ⟨rfl, rfl⟩)
          | (go_at_call 43; (with_reducible refine (V1.out _).mono ?_); rintro e w2 ⟨rfl, rfl⟩)
          | (go_at_call 43; (with_reducible refine (V2.out _).mono ?_); rintro e w2 ⟨rfl, rfl⟩)
          | (go_at_call 43; (with_reducible refine (V3.out _).mono ?_); rintro e w2 ⟨rfl, rfl⟩)
          | (go_at_call 43; (with_reducible refine (V4.out _).mono ?_); rintro e w2 ⟨rfl, rfl⟩)
          | (go_at_call 43; (with_reducible refine (V5.out _).mono ?_); rintro e w2 ⟨rfl, rfl⟩)
          | (at_builtin; refine wpList_append_own _ rfl _ _ 23 rfl w1.heap.size 46 i0 (.agg #[.int .i64 0, .int .i64 0, .int .i64 0, .int .i64 0, .string ⟨#[]⟩]) 5 48 Tryz.underlying23 hi hz0 hz1 hz2 rfl (by decide) _ _ _ rfl ((hown.alloc _).alloc _) ⟨wr.heap.size + 1, 0, none⟩ 1 1 (Ins.cells ⟨1, a, val r, 0, []⟩) rfl rfl ?c1 ?c2 ?c3 ?c4 ?c5 ?_))
        case c1 => exact news_second wr _ ⟨1, a, val r, 0, []⟩ _
        case c2 => exact cells_one _
        case c3 => unfold maxLen; omega
        case c4 => omega
        case c5 => simp; omega
        intro v' w3 hown' hgrow _
        have hb4 := app_below (hbw.alloc hsz _) (by simp; omega) (hown.alloc _) hgrow
        have ho : w3.ownsRow w1.heap.size 46 5 v' (k + 1) (progV (decs (ls.take (k + 1)))) := by
          rw [HT.out, progV_app, progV_one, HX.out]; exact hown'
        have HO3 := Lib.hid ho
        clear ho hown' hgrow hown hbw
        go_wp2
        go_roundw
        case rel => exact ⟨k + 1, by omega, by go_num, HO3.out, hb4⟩
        case measure => simp [intOf]; omega
      by_cases h3 : op = 3
      · subst h3
        have HX : Hid (dec it = ⟨3, a, val r, 0, []⟩) := Lib.hid (by rw [HD.out]; simp [decr])
        go_wp2_with (first
          | (go_at_call 42; (with_reducible refine (T1.out _).mono ?_); rintro e w2 ⟨rfl, rfl⟩)
          | (go_at_call 42; (with_reducible refine (T2.out _).mono ?_); rintro e w2 ⟨rfl, rfl⟩)
          | (go_at_call 42; (with_reducible refine (T3.out _).mono ?_); rintro e w2 ⟨rfl, rfl⟩)
          | (go_at_call 44; (with_reducible refine (H1.out _).mono ?_); rintro e w2 ⟨rfl, rfl⟩)
          | (go_at_call 44; (with_reducible refine (H2.out _).mono ?_); rintro e w2 ⟨rfl, rfl⟩)
          | (go_at_call 44; (with_reducible refine (H3.out _).mono ?_); rintro e w2 ⟨rfl, rfl⟩)
          | (go_at_call 43; (with_reducible refine (V1.out _).mono ?_); rintro e w2 ⟨rfl, rfl⟩)
          | (go_at_call 43; (with_reducible refine (V2.out _).mono ?_); rintro e w2 ⟨rfl, rfl⟩)
          | (go_at_call 43; (with_reducible refine (V3.out _).mono ?_); rintro e w2 ⟨rfl, rfl⟩)
          | (go_at_call 43; (with_reducible refine (V4.out _).mono ?_); rintro e w2 ⟨rfl, rfl⟩)
          | (go_at_call 43; (with_reducible refine (V5.out _).mono ?_); rintro e w2 ⟨rfl, rfl⟩)
          | (at_builtin; refine wpList_append_own _ rfl _ _ 23 rfl w1.heap.size 46 i0 (.agg #[.int .i64 0, .int .i64 0, .int .i64 0, .int .i64 0, .string ⟨#[]⟩]) 5 48 Tryz.underlying23 hi hz0 hz1 hz2 rfl (by decide) _ _ _ rfl ((hown.alloc _).alloc _) ⟨wr.heap.size + 1, 0, none⟩ 1 1 (Ins.cells ⟨3, a, val r, 0, []⟩) rfl rfl ?c1 ?c2 ?c3 ?c4 ?c5 ?_))
        case c1 => exact news_second wr _ ⟨3, a, val r, 0, []⟩ _
        case c2 => exact cells_one _
        case c3 => unfold maxLen; omega
        case c4 => omega
        case c5 => simp; omega
        intro v' w3 hown' hgrow _
        have hb4 := app_below (hbw.alloc hsz _) (by simp; omega) (hown.alloc _) hgrow
        have ho : w3.ownsRow w1.heap.size 46 5 v' (k + 1) (progV (decs (ls.take (k + 1)))) := by
          rw [HT.out, progV_app, progV_one, HX.out]; exact hown'
        have HO3 := Lib.hid ho
        clear ho hown' hgrow hown hbw
        go_wp2
        go_roundw
        case rel => exact ⟨k + 1, by omega, by go_num, HO3.out, hb4⟩
        case measure => simp [intOf]; omega
      by_cases h4 : op = 4
      · subst h4
        have HX : Hid (dec it = ⟨4, a, val r, 0, []⟩) := Lib.hid (by rw [HD.out]; simp [decr])
        go_wp2_with (first
          | (go_at_call 42; (with_reducible refine (T1.out _).mono ?_); rintro e w2 ⟨rfl, rfl⟩)
          | (go_at_call 42; (with_reducible refine (T2.out _).mono ?_); rintro e w2 ⟨rfl, rfl⟩)
          | (go_at_call 42; (with_reducible refine (T3.out _).mono ?_); rintro e w2 ⟨rfl, rfl⟩)
          | (go_at_call 44; (with_reducible refine (H1.out _).mono ?_); rintro e w2 ⟨rfl, rfl⟩)
          | (go_at_call 44; (with_reducible refine (H2.out _).mono ?_); rintro e w2 ⟨rfl, rfl⟩)
          | (go_at_call 44; (with_reducible refine (H3.out _).mono ?_); rintro e w2 ⟨rfl, rfl⟩)
          | (go_at_call 43; (with_reducible refine (V1.out _).mono ?_); rintro e w2 ⟨rfl, rfl⟩)
          | (go_at_call 43; (with_reducible refine (V2.out _).mono ?_); rintro e w2 ⟨rfl, rfl⟩)
          | (go_at_call 43; (with_reducible refine (V3.out _).mono ?_); rintro e w2 ⟨rfl, rfl⟩)
          | (go_at_call 43; (with_reducible refine (V4.out _).mono ?_); rintro e w2 ⟨rfl, rfl⟩)
          | (go_at_call 43; (with_reducible refine (V5.out _).mono ?_); rintro e w2 ⟨rfl, rfl⟩)
          | (at_builtin; refine wpList_append_own _ rfl _ _ 23 rfl w1.heap.size 46 i0 (.agg #[.int .i64 0, .int .i64 0, .int .i64 0, .int .i64 0, .string ⟨#[]⟩]) 5 48 Tryz.underlying23 hi hz0 hz1 hz2 rfl (by decide) _ _ _ rfl ((hown.alloc _).alloc _) ⟨wr.heap.size + 1, 0, none⟩ 1 1 (Ins.cells ⟨4, a, val r, 0, []⟩) rfl rfl ?c1 ?c2 ?c3 ?c4 ?c5 ?_))
        case c1 => exact news_second wr _ ⟨4, a, val r, 0, []⟩ _
        case c2 => exact cells_one _
        case c3 => unfold maxLen; omega
        case c4 => omega
        case c5 => simp; omega
        intro v' w3 hown' hgrow _
        have hb4 := app_below (hbw.alloc hsz _) (by simp; omega) (hown.alloc _) hgrow
        have ho : w3.ownsRow w1.heap.size 46 5 v' (k + 1) (progV (decs (ls.take (k + 1)))) := by
          rw [HT.out, progV_app, progV_one, HX.out]; exact hown'
        have HO3 := Lib.hid ho
        clear ho hown' hgrow hown hbw
        go_wp2
        go_roundw
        case rel => exact ⟨k + 1, by omega, by go_num, HO3.out, hb4⟩
        case measure => simp [intOf]; omega
      by_cases h2 : op = 2
      · subst h2
        have HX : Hid (dec it = ⟨2, a, val (hd r), val (tl r), []⟩) := Lib.hid (by rw [HD.out]; simp [decr])
        go_wp2_with (first
          | (go_at_call 42; (with_reducible refine (T1.out _).mono ?_); rintro e w2 ⟨rfl, rfl⟩)
          | (go_at_call 42; (with_reducible refine (T2.out _).mono ?_); rintro e w2 ⟨rfl, rfl⟩)
          | (go_at_call 42; (with_reducible refine (T3.out _).mono ?_); rintro e w2 ⟨rfl, rfl⟩)
          | (go_at_call 44; (with_reducible refine (H1.out _).mono ?_); rintro e w2 ⟨rfl, rfl⟩)
          | (go_at_call 44; (with_reducible refine (H2.out _).mono ?_); rintro e w2 ⟨rfl, rfl⟩)
          | (go_at_call 44; (with_reducible refine (H3.out _).mono ?_); rintro e w2 ⟨rfl, rfl⟩)
          | (go_at_call 43; (with_reducible refine (V1.out _).mono ?_); rintro e w2 ⟨rfl, rfl⟩)
          | (go_at_call 43; (with_reducible refine (V2.out _).mono ?_); rintro e w2 ⟨rfl, rfl⟩)
          | (go_at_call 43; (with_reducible refine (V3.out _).mono ?_); rintro e w2 ⟨rfl, rfl⟩)
          | (go_at_call 43; (with_reducible refine (V4.out _).mono ?_); rintro e w2 ⟨rfl, rfl⟩)
          | (go_at_call 43; (with_reducible refine (V5.out _).mono ?_); rintro e w2 ⟨rfl, rfl⟩)
          | (at_builtin; refine wpList_append_own _ rfl _ _ 23 rfl w1.heap.size 46 i0 (.agg #[.int .i64 0, .int .i64 0, .int .i64 0, .int .i64 0, .string ⟨#[]⟩]) 5 48 Tryz.underlying23 hi hz0 hz1 hz2 rfl (by decide) _ _ _ rfl ((hown.alloc _).alloc _) ⟨wr.heap.size + 1, 0, none⟩ 1 1 (Ins.cells ⟨2, a, val (hd r), val (tl r), []⟩) rfl rfl ?c1 ?c2 ?c3 ?c4 ?c5 ?_))
        case c1 => exact news_second wr _ ⟨2, a, val (hd r), val (tl r), []⟩ _
        case c2 => exact cells_one _
        case c3 => unfold maxLen; omega
        case c4 => omega
        case c5 => simp; omega
        intro v' w3 hown' hgrow _
        have hb4 := app_below (hbw.alloc hsz _) (by simp; omega) (hown.alloc _) hgrow
        have ho : w3.ownsRow w1.heap.size 46 5 v' (k + 1) (progV (decs (ls.take (k + 1)))) := by
          rw [HT.out, progV_app, progV_one, HX.out]; exact hown'
        have HO3 := Lib.hid ho
        clear ho hown' hgrow hown hbw
        go_wp2
        go_roundw
        case rel => exact ⟨k + 1, by omega, by go_num, HO3.out, hb4⟩
        case measure => simp [intOf]; omega
      by_cases h5 : op = 5
      · subst h5
        by_cases hh : hd r = [48]
        · have HX : Hid (dec it = ⟨5, a, val (tl r), 0, []⟩) := Lib.hid (by rw [HD.out]; simp [decr, hh])
          rw [hh] at H3
          go_wp2_with (first
            | (go_at_call 42; (with_reducible refine (T1.out _).mono ?_); rintro e w2 ⟨rfl, rfl⟩)
            | (go_at_call 42; (with_reducible refine (T2.out _).mono ?_); rintro e w2 ⟨rfl, rfl⟩)
            | (go_at_call 42; (with_reducible refine (T3.out _).mono ?_); rintro e w2 ⟨rfl, rfl⟩)
            | (go_at_call 44; (with_reducible refine (H1.out _).mono ?_); rintro e w2 ⟨rfl, rfl⟩)
            | (go_at_call 44; (with_reducible refine (H2.out _).mono ?_); rintro e w2 ⟨rfl, rfl⟩)
            | (go_at_call 44; (with_reducible refine (H3.out _).mono ?_); rintro e w2 ⟨rfl, rfl⟩)
            | (go_at_call 43; (with_reducible refine (V1.out _).mono ?_); rintro e w2 ⟨rfl, rfl⟩)
            | (go_at_call 43; (with_reducible refine (V2.out _).mono ?_); rintro e w2 ⟨rfl, rfl⟩)
            | (go_at_call 43; (with_reducible refine (V3.out _).mono ?_); rintro e w2 ⟨rfl, rfl⟩)
            | (go_at_call 43; (with_reducible refine (V4.out _).mono ?_); rintro e w2 ⟨rfl, rfl⟩)
            | (go_at_call 43; (with_reducible refine (V5.out _).mono ?_); rintro e w2 ⟨rfl, rfl⟩)
            | (at_builtin; refine wpList_append_own _ rfl _ _ 23 rfl w1.heap.size 46 i0 (.agg #[.int .i64 0, .int .i64 0, .int .i64 0, .int .i64 0, .string ⟨#[]⟩]) 5 48 Tryz.underlying23 hi hz0 hz1 hz2 rfl (by decide) _ _ _ rfl ((hown.alloc _).alloc _) ⟨wr.heap.size + 1, 0, none⟩ 1 1 (Ins.cells ⟨5, a, val (tl r), 0, []⟩) rfl rfl ?c1 ?c2 ?c3 ?c4 ?c5 ?_))
          case c1 => exact news_second wr _ ⟨5, a, val (tl r), 0, []⟩ _
          case c2 => exact cells_one _
          case c3 => unfold maxLen; omega
          case c4 => omega
          case c5 => simp; omega
          intro v' w3 hown' hgrow _
          have hb4 := app_below (hbw.alloc hsz _) (by simp; omega) (hown.alloc _) hgrow
          have ho : w3.ownsRow w1.heap.size 46 5 v' (k + 1) (progV (decs (ls.take (k + 1)))) := by
            rw [HT.out, progV_app, progV_one, HX.out]; exact hown'
          have HO3 := Lib.hid ho
          clear ho hown' hgrow hown hbw
          go_wp2
          go_roundw
          case rel => exact ⟨k + 1, by omega, by go_num, HO3.out, hb4⟩
          case measure => simp [intOf]; omega
        · have HX : Hid (dec it = ⟨5, a, -val (tl r), 0, []⟩) := Lib.hid (by rw [HD.out]; simp [decr, hh])
          have n1 : ((S (hd r)).toList == [48]) = false := ne_str (by simpa using hh)
          have n2 : (hd r == [48]) = false := beq_eq_false_iff_ne.2 hh
          clear hh
          go_wp2_with (first
            | (go_at_call 42; (with_reducible refine (T1.out _).mono ?_); rintro e w2 ⟨rfl, rfl⟩)
            | (go_at_call 42; (with_reducible refine (T2.out _).mono ?_); rintro e w2 ⟨rfl, rfl⟩)
            | (go_at_call 42; (with_reducible refine (T3.out _).mono ?_); rintro e w2 ⟨rfl, rfl⟩)
            | (go_at_call 44; (with_reducible refine (H1.out _).mono ?_); rintro e w2 ⟨rfl, rfl⟩)
            | (go_at_call 44; (with_reducible refine (H2.out _).mono ?_); rintro e w2 ⟨rfl, rfl⟩)
            | (go_at_call 44; (with_reducible refine (H3.out _).mono ?_); rintro e w2 ⟨rfl, rfl⟩)
            | (go_at_call 43; (with_reducible refine (V1.out _).mono ?_); rintro e w2 ⟨rfl, rfl⟩)
            | (go_at_call 43; (with_reducible refine (V2.out _).mono ?_); rintro e w2 ⟨rfl, rfl⟩)
            | (go_at_call 43; (with_reducible refine (V3.out _).mono ?_); rintro e w2 ⟨rfl, rfl⟩)
            | (go_at_call 43; (with_reducible refine (V4.out _).mono ?_); rintro e w2 ⟨rfl, rfl⟩)
            | (go_at_call 43; (with_reducible refine (V5.out _).mono ?_); rintro e w2 ⟨rfl, rfl⟩)
            | (at_builtin; refine wpList_append_own _ rfl _ _ 23 rfl w1.heap.size 46 i0 (.agg #[.int .i64 0, .int .i64 0, .int .i64 0, .int .i64 0, .string ⟨#[]⟩]) 5 48 Tryz.underlying23 hi hz0 hz1 hz2 rfl (by decide) _ _ _ rfl ((hown.alloc _).alloc _) ⟨wr.heap.size + 1, 0, none⟩ 1 1 (Ins.cells ⟨5, a, -val (tl r), 0, []⟩) rfl rfl ?c1 ?c2 ?c3 ?c4 ?c5 ?_))
          case c1 => exact news_second wr _ ⟨5, a, -val (tl r), 0, []⟩ _
          case c2 => exact cells_one _
          case c3 => unfold maxLen; omega
          case c4 => omega
          case c5 => simp; omega
          intro v' w3 hown' hgrow _
          have hb4 := app_below (hbw.alloc hsz _) (by simp; omega) (hown.alloc _) hgrow
          have ho : w3.ownsRow w1.heap.size 46 5 v' (k + 1) (progV (decs (ls.take (k + 1)))) := by
            rw [HT.out, progV_app, progV_one, HX.out]; exact hown'
          have HO3 := Lib.hid ho
          clear ho hown' hgrow hown hbw
          go_wp2
          go_roundw
          case rel => exact ⟨k + 1, by omega, by go_num, HO3.out, hb4⟩
          case measure => simp [intOf]; omega
      · have HX : Hid (dec it = ⟨op, a, 0, 0, []⟩) := Lib.hid (by rw [HD.out]; simp [decr, h0, h1, h2, h3, h4, h5])
        have o0 : (op == 0) = false := beq_eq_false_iff_ne.2 h0
        have o1 : (op == 1) = false := beq_eq_false_iff_ne.2 h1
        have o2 : (op == 2) = false := beq_eq_false_iff_ne.2 h2
        have o3 : (op == 3) = false := beq_eq_false_iff_ne.2 h3
        have o4 : (op == 4) = false := beq_eq_false_iff_ne.2 h4
        have o5 : (op == 5) = false := beq_eq_false_iff_ne.2 h5
        clear h0 h1 h2 h3 h4 h5
        go_wp2_with (first
          | (go_at_call 42; (with_reducible refine (T1.out _).mono ?_); rintro e w2 ⟨rfl, rfl⟩)
          | (go_at_call 42; (with_reducible refine (T2.out _).mono ?_); rintro e w2 ⟨rfl, rfl⟩)
          | (go_at_call 42; (with_reducible refine (T3.out _).mono ?_); rintro e w2 ⟨rfl, rfl⟩)
          | (go_at_call 44; (with_reducible refine (H1.out _).mono ?_); rintro e w2 ⟨rfl, rfl⟩)
          | (go_at_call 44; (with_reducible refine (H2.out _).mono ?_); rintro e w2 ⟨rfl, rfl⟩)
          | (go_at_call 44; (with_reducible refine (H3.out _).mono ?_); rintro e w2 ⟨rfl, rfl⟩)
          | (go_at_call 43; (with_reducible refine (V1.out _).mono ?_); rintro e w2 ⟨rfl, rfl⟩)
          | (go_at_call 43; (with_reducible refine (V2.out _).mono ?_); rintro e w2 ⟨rfl, rfl⟩)
          | (go_at_call 43; (with_reducible refine (V3.out _).mono ?_); rintro e w2 ⟨rfl, rfl⟩)
          | (go_at_call 43; (with_reducible refine (V4.out _).mono ?_); rintro e w2 ⟨rfl, rfl⟩)
          | (go_at_call 43; (with_reducible refine (V5.out _).mono ?_); rintro e w2 ⟨rfl, rfl⟩)
          | (at_builtin; refine wpList_append_own _ rfl _ _ 23 rfl w1.heap.size 46 i0 (.agg #[.int .i64 0, .int .i64 0, .int .i64 0, .int .i64 0, .string ⟨#[]⟩]) 5 48 Tryz.underlying23 hi hz0 hz1 hz2 rfl (by decide) _ _ _ rfl ((hown.alloc _).alloc _) ⟨wr.heap.size + 1, 0, none⟩ 1 1 (Ins.cells ⟨op, a, 0, 0, []⟩) rfl rfl ?c1 ?c2 ?c3 ?c4 ?c5 ?_))
        case c1 => exact news_second wr _ ⟨op, a, 0, 0, []⟩ _
        case c2 => exact cells_one _
        case c3 => unfold maxLen; omega
        case c4 => omega
        case c5 => simp; omega
        intro v' w3 hown' hgrow _
        have hb4 := app_below (hbw.alloc hsz _) (by simp; omega) (hown.alloc _) hgrow
        have ho : w3.ownsRow w1.heap.size 46 5 v' (k + 1) (progV (decs (ls.take (k + 1)))) := by
          rw [HT.out, progV_app, progV_one, HX.out]; exact hown'
        have HO3 := Lib.hid ho
        clear ho hown' hgrow hown hbw
        go_wp2
        go_roundw
        case rel => exact ⟨k + 1, by omega, by go_num, HO3.out, hb4⟩
        case measure => simp [intOf]; omega
    · have hkn : k = n := by omega
      have hlen : (decs ls).length = n := by rw [decs_len, HN.out]
      have ho : wr.ownsRow w1.heap.size 46 5 u5 n (progV (decs ls)) := by
        have := hown
        rw [List.take_of_length_le (by rw [HN.out]; omega)] at this
        rw [hkn] at this; exact this
      clear hkn
      have HFO := Lib.hid (own_base ho hb.size)
      have hfb := hb.trans (hbw.mono hb.size)
      obtain ⟨-, harg, hs2⟩ := own_prog ho
      have hmem : ∀ x ∈ decs ls, x.tree.length ≤ 281474976710656 := by
        intro x hx
        obtain ⟨it, hit, rfl⟩ := List.mem_map.1 hx
        exact dec_tree (HA.out it hit)
      have hPV := fun b hb => PV_arg wr _ (decs ls) b harg (by omega) hmem hb
      obtain ⟨g2, cap2, hv2, hg2, hp⟩ := hs2 hn0
      rw [hlen] at hv2
      subst hv2
      have HARG := Lib.hid harg
      clear hs2 hp ho hown hmem hbw harg hlen
      by_cases hpv : PValid (decs ls)
      · have HV := Lib.hid (hPV true (by simp [hpv]))
        have HPV := Lib.hid hpv
        clear hPV
        have HCO := Lib.hid (fun W h => Code_arg W (.slice (some ⟨g2, 0, none⟩) n cap2) (decs ls) h hpv)
        clear hpv
        by_cases he : enc (codes (decs ls)) = s.data.toList
        · obtain rfl : ok = true := HO.out.2 ⟨HPV.out, he⟩
          have HS : Hid (S (enc (codes (decs ls))) = s) := Lib.hid (by rw [he, ← S_eq])
          clear he
          go_wp2_with fail
          refine HV.out.mono ?_
          rintro e w2 ⟨rfl, h2⟩
          go_wp2_with fail
          refine (HCO.out _ (HARG.out.below h2)).mono ?_
          rintro e w3 ⟨rfl, h3⟩
          rw [HS.out]
          go_wp2_with fail
          go_ret2
          have h23 := bstep h2 h3
          exact ⟨_, rfl, own_keep HFO.out h23, hfb.trans (h23.mono hfb.size)⟩
        · obtain rfl : ok = false := by
            cases ok with
            | false => rfl
            | true => exact absurd (HO.out.1 rfl).2 he
          have n1 := ne_str (s := s) (Ne.symm he)
          rw [beq_eq_false_iff_ne] at n1
          have n2 : (enc (codes (decs ls)) == s.toList) = false := beq_eq_false_iff_ne.2 (fun h => n1 h.symm)
          clear he n1
          go_wp2_with fail
          refine HV.out.mono ?_
          rintro e w2 ⟨rfl, h2⟩
          go_wp2_with fail
          refine (HCO.out _ (HARG.out.below h2)).mono ?_
          rintro e w3 ⟨rfl, h3⟩
          go_wp2_with fail
          go_ret2
          have h23 := bstep h2 h3
          exact ⟨_, rfl, own_keep HFO.out h23, hfb.trans (h23.mono hfb.size)⟩
      · obtain rfl : ok = false := by
          cases ok with
          | false => rfl
          | true => exact absurd (HO.out.1 rfl).1 hpv
        have HV := Lib.hid (hPV false (by simp [hpv]))
        clear hPV hpv
        go_wp2_with fail
        refine HV.out.mono ?_
        rintro e w2 ⟨rfl, h2⟩
        go_wp2_with fail
        go_ret2
        exact ⟨_, rfl, own_keep HFO.out h2, hfb.trans (h2.mono hfb.size)⟩
set_option maxHeartbeats 1600000 in
set_option maxRecDepth 100000 in
theorem Decode_many (s : ByteArray) (w : World) (hv : vld s.data.toList = true) (hn : 4000 < (itemsOf s.data.toList).length) :
    Calls Tryz.prog 22 #[.string s] w fun e w' => e = .returned (.tuple #[.slice none 0 0, .bool false]) ∧ Below w.heap.size w w' := by
  have HI := Lib.hid (rItems_yes s w hv)
  generalize itemsOf s.data.toList = ls at *
  have hn0 : 0 < ls.length := by omega
  go_enter Tryz.func22, Tryz.ntmps22
  go_wp2_with fail
  refine HI.out.mono ?_
  rintro e w1 ⟨v, rfl, hown, hb⟩
  obtain ⟨g, cap, rfl, hgn, hg0, hst⟩ := own_strs hown hn0
  clear hst hown
  go_wp2_with fail
  go_ret2
  exact ⟨rfl, hb⟩
set_option maxHeartbeats 1600000 in
set_option maxRecDepth 100000 in
theorem Decode_zero (w : World) :
    Calls Tryz.prog 22 #[.string (S [48])] w fun e w' => e = .returned (.tuple #[.slice none 0 0, .bool true]) ∧ Below w.heap.size w w' := by
  have HI := Lib.hid (rItems_yes (S [48]) w (by decide))
  have HV := Lib.hid (fun W : World => PV_none W none 0)
  have HC := Lib.hid (fun W : World => Code_none W none 0)
  go_enter Tryz.func22, Tryz.ntmps22
  go_wp2_with fail
  refine HI.out.mono ?_
  rintro e w1 ⟨v, rfl, hown, hb⟩
  obtain ⟨vb, vd, rfl⟩ := own_empty (by exact hown)
  clear hown
  go_wp2_with fail
  go_loop [5, 6] (fun v i => v = .slice none 0 0 ∧ i = .int .i64 0) (fun _ _ => 0)
  case atStart => exact ⟨rfl, rfl⟩
  case round =>
    obtain ⟨rfl, rfl⟩ := hrel
    go_wp2_with fail
    refine (HV.out _).mono ?_
    rintro e w2 ⟨rfl, h2⟩
    go_wp2_with fail
    refine (HC.out _).mono ?_
    rintro e w3 ⟨rfl, h3⟩
    go_wp2_with fail
    go_ret2
    exact ⟨rfl, hb.trans ((bstep h2 h3).mono hb.size)⟩
end Go.Proofs.YtlfoigkpfooopaaGreatDoor
