/- The writer's other instructions. By an AI agent. -/
import Derived.Test.YtkpfocgcnehajabDoorSp5
namespace Go.Proofs.YtkpfocgcnehajabDoor
open Go.RowKit Pl
def headI (a b : Int) : Ins := ⟨3, a, b, 0, []⟩
def tailI (a b : Int) : Ins := ⟨4, a, b, 0, []⟩
set_option maxHeartbeats 800000 in
set_option maxRecDepth 100000 in
theorem bhead_is (a b : Int) (w : World) : Calls Tryd.prog 64 #[.int .i64 a, .int .i64 b] w fun e w' => e = .returned (.agg #[.int .i64 3, .int .i64 a, .int .i64 b, .int .i64 0, .string ⟨#[]⟩]) ∧ Below w.heap.size w w' := by
  go_enter Tryd.func64, Tryd.ntmps64
  go_wp2
  exact bodyPost_ret (v := .agg #[.int .i64 3, .int .i64 a, .int .i64 b, .int .i64 0, .string ⟨#[]⟩]) (by simp [results, Tryd.f64, go_sem]) rfl ⟨rfl, alloc_below _ _⟩
set_option maxHeartbeats 800000 in
set_option maxRecDepth 100000 in
theorem btail_is (a b : Int) (w : World) : Calls Tryd.prog 65 #[.int .i64 a, .int .i64 b] w fun e w' => e = .returned (.agg #[.int .i64 4, .int .i64 a, .int .i64 b, .int .i64 0, .string ⟨#[]⟩]) ∧ Below w.heap.size w w' := by
  go_enter Tryd.func65, Tryd.ntmps65
  go_wp2
  exact bodyPost_ret (v := .agg #[.int .i64 4, .int .i64 a, .int .i64 b, .int .i64 0, .string ⟨#[]⟩]) (by simp [results, Tryd.f65, go_sem]) rfl ⟨rfl, alloc_below _ _⟩
set_option maxHeartbeats 800000 in
set_option maxRecDepth 100000 in
theorem whead_any (w : World) (X B : Nat) (v : Value) (ps : List Ins) (a b : Int) (h : WrAt w X B v ps) (hn : (ps.length + 1) * 48 ≤ 140737488355328) :
    Calls Tryd.prog 41 #[.pointer (some ⟨X, 0, none⟩), .int .i64 a, .int .i64 b] w fun e w' => e = .returned (.tuple #[]) ∧ ∃ v', WrAt w' X B v' (ps ++ [headI a b]) ∧ Far X v w w' := by
  have H := Lib.hid (fun w1 (hb : Below w.heap.size w w1) => wr_lit2 hb h (headI a b) hn (by simp [headI]))
  clear h hn
  go_enter Tryd.func41, Tryd.ntmps41
  go_wp2_with fail
  refine (bhead_is _ _ _).mono ?_
  rintro e w1 ⟨rfl, hb⟩
  have HB := Lib.hid hb
  clear hb
  go_wp2_with fail
  refine (H.out _ HB.out).mono ?_
  rintro e w2 ⟨rfl, h1⟩
  have HH := Lib.hid h1
  clear h1
  go_wp2
  go_end0
  exact ⟨rfl, HH.out⟩
set_option maxHeartbeats 800000 in
set_option maxRecDepth 100000 in
theorem wtail_any (w : World) (X B : Nat) (v : Value) (ps : List Ins) (a b : Int) (h : WrAt w X B v ps) (hn : (ps.length + 1) * 48 ≤ 140737488355328) :
    Calls Tryd.prog 42 #[.pointer (some ⟨X, 0, none⟩), .int .i64 a, .int .i64 b] w fun e w' => e = .returned (.tuple #[]) ∧ ∃ v', WrAt w' X B v' (ps ++ [tailI a b]) ∧ Far X v w w' := by
  have H := Lib.hid (fun w1 (hb : Below w.heap.size w w1) => wr_lit2 hb h (tailI a b) hn (by simp [tailI]))
  clear h hn
  go_enter Tryd.func42, Tryd.ntmps42
  go_wp2_with fail
  refine (btail_is _ _ _).mono ?_
  rintro e w1 ⟨rfl, hb⟩
  have HB := Lib.hid hb
  clear hb
  go_wp2_with fail
  refine (H.out _ HB.out).mono ?_
  rintro e w2 ⟨rfl, h1⟩
  have HH := Lib.hid h1
  clear h1
  go_wp2
  go_end0
  exact ⟨rfl, HH.out⟩
set_option maxHeartbeats 800000 in
set_option maxRecDepth 100000 in
theorem wmove_any (w : World) (X B : Nat) (v : Value) (ps : List Ins) (a b : Int) (h : WrAt w X B v ps) (hn : (ps.length + 1) * 48 ≤ 140737488355328) :
    Calls Tryd.prog 70 #[.pointer (some ⟨X, 0, none⟩), .int .i64 a, .int .i64 b] w fun e w' => e = .returned (.tuple #[]) ∧ ∃ v', WrAt w' X B v' (ps ++ [moveI a b]) ∧ Far X v w w' := by
  have H := Lib.hid (fun w1 (hb : Below w.heap.size w w1) => wr_lit2 hb h (moveI a b) hn (by simp [moveI]))
  clear h hn
  go_enter Tryd.func70, Tryd.ntmps70
  go_wp2_with fail
  refine (bmove_is _ _ _).mono ?_
  rintro e w1 ⟨rfl, hb⟩
  have HB := Lib.hid hb
  clear hb
  go_wp2_with fail
  refine (H.out _ HB.out).mono ?_
  rintro e w2 ⟨rfl, h1⟩
  have HH := Lib.hid h1
  clear h1
  go_wp2
  go_end0
  exact ⟨rfl, HH.out⟩
set_option maxHeartbeats 800000 in
set_option maxRecDepth 100000 in
theorem wjump_any (w : World) (X B : Nat) (v : Value) (ps : List Ins) (a b : Int) (h : WrAt w X B v ps) (hn : (ps.length + 1) * 48 ≤ 140737488355328) :
    Calls Tryd.prog 68 #[.pointer (some ⟨X, 0, none⟩), .int .i64 a, .int .i64 b] w fun e w' => e = .returned (.tuple #[]) ∧ ∃ v', WrAt w' X B v' (ps ++ [jumpI a b]) ∧ Far X v w w' := by
  have H := Lib.hid (fun w1 (hb : Below w.heap.size w w1) => wr_lit2 hb h (jumpI a b) hn (by simp [jumpI]))
  clear h hn
  go_enter Tryd.func68, Tryd.ntmps68
  go_wp2_with fail
  refine (bjump_is _ _ _).mono ?_
  rintro e w1 ⟨rfl, hb⟩
  have HB := Lib.hid hb
  clear hb
  go_wp2_with fail
  refine (H.out _ HB.out).mono ?_
  rintro e w2 ⟨rfl, h1⟩
  have HH := Lib.hid h1
  clear h1
  go_wp2
  go_end0
  exact ⟨rfl, HH.out⟩
end Go.Proofs.YtkpfocgcnehajabDoor
