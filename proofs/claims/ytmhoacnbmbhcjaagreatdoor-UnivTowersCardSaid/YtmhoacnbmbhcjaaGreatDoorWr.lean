/- The writer's other instructions. By an AI agent. -/
import Derived.Test.YtmhoacnbmbhcjaaGreatDoorSp5
namespace Go.Proofs.YtmhoacnbmbhcjaaGreatDoor
open Go.RowKit Pl
def headI (a b : Int) : Ins := ⟨3, a, b, 0, []⟩
def tailI (a b : Int) : Ins := ⟨4, a, b, 0, []⟩
set_option maxHeartbeats 800000 in
set_option maxRecDepth 100000 in
theorem bhead_is (a b : Int) (w : World) : Calls Tryz.prog 74 #[.int .i64 a, .int .i64 b] w fun e w' => e = .returned (.agg #[.int .i64 3, .int .i64 a, .int .i64 b, .int .i64 0, .string ⟨#[]⟩]) ∧ Below w.heap.size w w' := by
  go_enter Tryz.func74, Tryz.ntmps74
  go_wp2
  exact bodyPost_ret (v := .agg #[.int .i64 3, .int .i64 a, .int .i64 b, .int .i64 0, .string ⟨#[]⟩]) (by simp [results, Tryz.f74, go_sem]) rfl ⟨rfl, alloc_below _ _⟩
set_option maxHeartbeats 800000 in
set_option maxRecDepth 100000 in
theorem btail_is (a b : Int) (w : World) : Calls Tryz.prog 73 #[.int .i64 a, .int .i64 b] w fun e w' => e = .returned (.agg #[.int .i64 4, .int .i64 a, .int .i64 b, .int .i64 0, .string ⟨#[]⟩]) ∧ Below w.heap.size w w' := by
  go_enter Tryz.func73, Tryz.ntmps73
  go_wp2
  exact bodyPost_ret (v := .agg #[.int .i64 4, .int .i64 a, .int .i64 b, .int .i64 0, .string ⟨#[]⟩]) (by simp [results, Tryz.f73, go_sem]) rfl ⟨rfl, alloc_below _ _⟩
set_option maxHeartbeats 800000 in
set_option maxRecDepth 100000 in
theorem whead_any (w : World) (X B : Nat) (v : Value) (ps : List Ins) (a b : Int) (h : WrAt w X B v ps) (hn : (ps.length + 1) * 48 ≤ 140737488355328) :
    Calls Tryz.prog 103 #[.pointer (some ⟨X, 0, none⟩), .int .i64 a, .int .i64 b] w fun e w' => e = .returned (.tuple #[]) ∧ ∃ v', WrAt w' X B v' (ps ++ [headI a b]) ∧ Far X v w w' := by
  have H := Lib.hid (fun w1 (hb : Below w.heap.size w w1) => wr_lit2 hb h (headI a b) hn (by simp [headI]))
  clear h hn
  go_enter Tryz.func103, Tryz.ntmps103
  go_wp2_with fail
  refine (bhead_is _ _ _).mono ?_
  rintro e w1 ⟨rfl, hb⟩
  have HB := Lib.hid hb
  clear hb
  go_wp2_with fail
  refine (H.out _ HB.out).mono ?_
  rintro e w2 ⟨rfl, h1⟩
  have HH := Lib.hid h1
  clear h1
  go_wp2
  go_end0
  exact ⟨rfl, HH.out⟩
set_option maxHeartbeats 800000 in
set_option maxRecDepth 100000 in
theorem wtail_any (w : World) (X B : Nat) (v : Value) (ps : List Ins) (a b : Int) (h : WrAt w X B v ps) (hn : (ps.length + 1) * 48 ≤ 140737488355328) :
    Calls Tryz.prog 104 #[.pointer (some ⟨X, 0, none⟩), .int .i64 a, .int .i64 b] w fun e w' => e = .returned (.tuple #[]) ∧ ∃ v', WrAt w' X B v' (ps ++ [tailI a b]) ∧ Far X v w w' := by
  have H := Lib.hid (fun w1 (hb : Below w.heap.size w w1) => wr_lit2 hb h (tailI a b) hn (by simp [tailI]))
  clear h hn
  go_enter Tryz.func104, Tryz.ntmps104
  go_wp2_with fail
  refine (btail_is _ _ _).mono ?_
  rintro e w1 ⟨rfl, hb⟩
  have HB := Lib.hid hb
  clear hb
  go_wp2_with fail
  refine (H.out _ HB.out).mono ?_
  rintro e w2 ⟨rfl, h1⟩
  have HH := Lib.hid h1
  clear h1
  go_wp2
  go_end0
  exact ⟨rfl, HH.out⟩
set_option maxHeartbeats 800000 in
set_option maxRecDepth 100000 in
theorem wmove_any (w : World) (X B : Nat) (v : Value) (ps : List Ins) (a b : Int) (h : WrAt w X B v ps) (hn : (ps.length + 1) * 48 ≤ 140737488355328) :
    Calls Tryz.prog 173 #[.pointer (some ⟨X, 0, none⟩), .int .i64 a, .int .i64 b] w fun e w' => e = .returned (.tuple #[]) ∧ ∃ v', WrAt w' X B v' (ps ++ [moveI a b]) ∧ Far X v w w' := by
  have H := Lib.hid (fun w1 (hb : Below w.heap.size w w1) => wr_lit2 hb h (moveI a b) hn (by simp [moveI]))
  clear h hn
  go_enter Tryz.func173, Tryz.ntmps173
  go_wp2_with fail
  refine (bmove_is _ _ _).mono ?_
  rintro e w1 ⟨rfl, hb⟩
  have HB := Lib.hid hb
  clear hb
  go_wp2_with fail
  refine (H.out _ HB.out).mono ?_
  rintro e w2 ⟨rfl, h1⟩
  have HH := Lib.hid h1
  clear h1
  go_wp2
  go_end0
  exact ⟨rfl, HH.out⟩
set_option maxHeartbeats 800000 in
set_option maxRecDepth 100000 in
theorem wjump_any (w : World) (X B : Nat) (v : Value) (ps : List Ins) (a b : Int) (h : WrAt w X B v ps) (hn : (ps.length + 1) * 48 ≤ 140737488355328) :
    Calls Tryz.prog 171 #[.pointer (some ⟨X, 0, none⟩), .int .i64 a, .int .i64 b] w fun e w' => e = .returned (.tuple #[]) ∧ ∃ v', WrAt w' X B v' (ps ++ [jumpI a b]) ∧ Far X v w w' := by
  have H := Lib.hid (fun w1 (hb : Below w.heap.size w w1) => wr_lit2 hb h (jumpI a b) hn (by simp [jumpI]))
  clear h hn
  go_enter Tryz.func171, Tryz.ntmps171
  go_wp2_with fail
  refine (bjump_is _ _ _).mono ?_
  rintro e w1 ⟨rfl, hb⟩
  have HB := Lib.hid hb
  clear hb
  go_wp2_with fail
  refine (H.out _ HB.out).mono ?_
  rintro e w2 ⟨rfl, h1⟩
  have HH := Lib.hid h1
  clear h1
  go_wp2
  go_end0
  exact ⟨rfl, HH.out⟩
end Go.Proofs.YtmhoacnbmbhcjaaGreatDoor
