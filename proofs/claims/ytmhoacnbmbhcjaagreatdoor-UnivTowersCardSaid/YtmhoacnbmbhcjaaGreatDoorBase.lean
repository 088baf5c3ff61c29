/- Plain facts on trees as lists of bytes: no program. By an AI agent. -/
import Derived.Below
import Derived.Test.YtmhoacnbmbhcjaaGreatDoorRows
import Derived.WalkKit
import Derived.WalkSpells
import Derived.WalkLawsBesides
import Derived.Lib.Hide
import Derived.Deep.QuietTactic
import Derived.BigQuiet
import Derived.Shelf.Strings.Builder1
import Derived.Shelf.Strings.Builder2
import Derived.Shelf.LaysM
import Derived.Shelf.Strconv.Clone
import Derived.Shelf.Strings.Search3
import Derived.Shelf.Strings.Count
import Derived.Shelf.Bits.Mul64
import Derived.Shelf.Strings.Repeat
import Derived.Test.YtmhoacnbmbhcjaaGreatDoorProg
import Derived.Shelf.Vars
namespace Go.Proofs.YtmhoacnbmbhcjaaGreatDoor.Pl

/-- how many bytes the first m trees of l take -/
def fs : List UInt8 → Nat → Option Nat
  | [], m => if m = 0 then some 0 else none
  | c :: l, m => if m = 0 then some 0 else if c = 48 then (fs l (m - 1)).map (· + 1) else if c = 49 then (fs l (m + 1)).map (· + 1) else none

theorem fs_zero (l : List UInt8) : fs l 0 = some 0 := by cases l <;> simp [fs]
theorem fs_nil (m : Nat) (h : m ≠ 0) : fs [] m = none := by simp [fs, h]
theorem fs_48 (l : List UInt8) (m : Nat) : fs (48 :: l) (m + 1) = (fs l m).map (· + 1) := by simp [fs]
theorem fs_49 (l : List UInt8) (m : Nat) : fs (49 :: l) (m + 1) = (fs l (m + 2)).map (· + 1) := by simp [fs]
theorem fs_bad (c : UInt8) (l : List UInt8) (m : Nat) (h0 : c ≠ 48) (h1 : c ≠ 49) : fs (c :: l) (m + 1) = none := by simp [fs, h0, h1]

theorem fs_le {l : List UInt8} : ∀ {m e : Nat}, fs l m = some e → e ≤ l.length := by
  induction l with
  | nil => intro m e h; by_cases hm : m = 0 <;> simp [fs, hm] at h; omega
  | cons c l ih =>
    intro m e h
    by_cases hm : m = 0
    · subst hm; simp [fs] at h; omega
    · simp only [fs, if_neg hm] at h
      by_cases h0 : c = 48
      · rw [if_pos h0] at h
        obtain ⟨e', he', rfl⟩ := Option.map_eq_some_iff.1 h
        have := ih he'; simp; omega
      · rw [if_neg h0] at h
        by_cases h1 : c = 49
        · rw [if_pos h1] at h
          obtain ⟨e', he', rfl⟩ := Option.map_eq_some_iff.1 h
          have := ih he'; simp; omega
        · rw [if_neg h1] at h; cases h

theorem fs_ge {l : List UInt8} : ∀ {m e : Nat}, fs l m = some e → m ≤ e := by
  induction l with
  | nil => intro m e h; by_cases hm : m = 0 <;> simp [fs, hm] at h; omega
  | cons c l ih =>
    intro m e h
    by_cases hm : m = 0
    · omega
    · simp only [fs, if_neg hm] at h
      by_cases h0 : c = 48
      · rw [if_pos h0] at h
        obtain ⟨e', he', rfl⟩ := Option.map_eq_some_iff.1 h
        have := ih he'; omega
      · rw [if_neg h0] at h
        by_cases h1 : c = 49
        · rw [if_pos h1] at h
          obtain ⟨e', he', rfl⟩ := Option.map_eq_some_iff.1 h
          have := ih he'; omega
        · rw [if_neg h1] at h; cases h

theorem fs_add (l : List UInt8) : ∀ (a b : Nat), fs l (a + b) = (fs l a).bind fun e => (fs (l.drop e) b).map (e + ·) := by
  induction l with
  | nil =>
    intro a b
    by_cases ha : a = 0
    · subst ha; by_cases hb : b = 0 <;> simp [fs, hb]
    · simp [fs, ha]
  | cons c l ih =>
    intro a b
    by_cases ha : a = 0
    · subst ha
      rw [Nat.zero_add, fs_zero]
      show fs (c :: l) b = (fs (List.drop 0 (c :: l)) b).map (0 + ·)
      rw [List.drop_zero]
      cases fs (c :: l) b <;> simp
    · obtain ⟨a', rfl⟩ : ∃ a', a = a' + 1 := ⟨a - 1, by omega⟩
      have e1 : a' + 1 + b = (a' + b) + 1 := by omega
      rw [e1]
      by_cases h0 : c = 48
      · subst h0
        rw [fs_48, fs_48, ih a' b]
        cases hx : fs l a' with
        | none => rfl
        | some e =>
          simp only [Option.bind_some, Option.map_some, List.drop_succ_cons, Option.map_map]
          congr 1; funext x; simp; omega
      · by_cases h1 : c = 49
        · subst h1
          rw [fs_49, fs_49, show a' + b + 2 = (a' + 2) + b from by omega, ih (a' + 2) b]
          cases hx : fs l (a' + 2) with
          | none => rfl
          | some e =>
            simp only [Option.bind_some, Option.map_some, List.drop_succ_cons, Option.map_map]
            congr 1; funext x; simp; omega
        · rw [fs_bad c l _ h0 h1, fs_bad c l _ h0 h1]; rfl

theorem fs_append {l : List UInt8} (r : List UInt8) : ∀ {m e : Nat}, fs l m = some e → fs (l ++ r) m = some e := by
  induction l with
  | nil => intro m e h; by_cases hm : m = 0 <;> simp [fs, hm] at h; subst hm; subst h; exact fs_zero _
  | cons c l ih =>
    intro m e h
    by_cases hm : m = 0
    · subst hm; rw [fs_zero] at h ⊢; exact h
    · rw [List.cons_append]
      simp only [fs, if_neg hm] at h ⊢
      by_cases h0 : c = 48
      · rw [if_pos h0] at h ⊢
        obtain ⟨e', he', rfl⟩ := Option.map_eq_some_iff.1 h
        rw [ih he']; rfl
      · rw [if_neg h0] at h ⊢
        by_cases h1 : c = 49
        · rw [if_pos h1] at h ⊢
          obtain ⟨e', he', rfl⟩ := Option.map_eq_some_iff.1 h
          rw [ih he']; rfl
        · rw [if_neg h1] at h; cases h

theorem fs_take {l : List UInt8} : ∀ {m e : Nat}, fs l m = some e → fs (l.take e) m = some e := by
  induction l with
  | nil => intro m e h; simpa using h
  | cons c l ih =>
    intro m e h
    by_cases hm : m = 0
    · subst hm; rw [fs_zero] at h ⊢; exact h
    · simp only [fs, if_neg hm] at h
      by_cases h0 : c = 48
      · rw [if_pos h0] at h
        obtain ⟨e', he', rfl⟩ := Option.map_eq_some_iff.1 h
        simp only [List.take_succ_cons, fs, if_neg hm, if_pos h0]
        rw [ih he']; rfl
      · rw [if_neg h0] at h
        by_cases h1 : c = 49
        · rw [if_pos h1] at h
          obtain ⟨e', he', rfl⟩ := Option.map_eq_some_iff.1 h
          simp only [List.take_succ_cons, fs, if_neg hm, if_neg h0, if_pos h1]
          rw [ih he']; rfl
        · rw [if_neg h1] at h; cases h

/-- the pairs: as many ones, and m more zeros -/
theorem fs_count {l : List UInt8} : ∀ {m e : Nat}, fs l m = some e → e = 2 * (l.take e).count 49 + m := by
  induction l with
  | nil => intro m e h; by_cases hm : m = 0 <;> simp [fs, hm] at h; subst h; simp [hm]
  | cons c l ih =>
    intro m e h
    by_cases hm : m = 0
    · subst hm; rw [fs_zero] at h; cases h; simp
    · simp only [fs, if_neg hm] at h
      by_cases h0 : c = 48
      · rw [if_pos h0] at h
        obtain ⟨e', he', rfl⟩ := Option.map_eq_some_iff.1 h
        have := ih he'
        subst h0
        simp only [List.take_succ_cons]
        rw [List.count_cons_of_ne (by decide)]
        omega
      · rw [if_neg h0] at h
        by_cases h1 : c = 49
        · rw [if_pos h1] at h
          obtain ⟨e', he', rfl⟩ := Option.map_eq_some_iff.1 h
          have := ih he'
          subst h1
          simp only [List.take_succ_cons]
          rw [List.count_cons_self]
          omega
        · rw [if_neg h1] at h; cases h

/-- fewer trees than the whole: they end earlier -/
theorem fs_sub {l : List UInt8} {a b e : Nat} (h : fs l (a + b) = some e) : ∃ e1 e2, fs l a = some e1 ∧ fs (l.drop e1) b = some e2 ∧ e = e1 + e2 := by
  rw [fs_add] at h
  obtain ⟨e1, h1, h2⟩ := Option.bind_eq_some_iff.1 h
  obtain ⟨e2, h3, h4⟩ := Option.map_eq_some_iff.1 h2
  exact ⟨e1, e2, h1, h3, h4.symm⟩

/-- the size of the tree with which l begins, or -1 -/
def sz (l : List UInt8) : Int := match fs l 1 with | some e => (e : Int) | none => -1
def vld (l : List UInt8) : Bool := decide (l.length ≤ 2000000) && decide (fs l 1 = some l.length)

theorem vld_iff {l : List UInt8} : vld l = true ↔ l.length ≤ 2000000 ∧ fs l 1 = some l.length := by simp [vld]
theorem sz_eq_len (l : List UInt8) : decide (sz l = (l.length : Int)) = decide (fs l 1 = some l.length) := by
  unfold sz
  cases h : fs l 1 with
  | none => simp
  | some e => simp only [Option.some.injEq, decide_eq_decide]; omega
theorem sz_some {l : List UInt8} {e : Nat} (h : fs l 1 = some e) : sz l = (e : Int) := by simp [sz, h]
theorem sz_ge (l : List UInt8) : -1 ≤ sz l ∧ sz l ≤ l.length := by
  unfold sz
  cases h : fs l 1 with
  | none => simp
  | some e => have := fs_le h; simp; omega

/-- the parts of a pair that is valid -/
theorem vld_pair {l : List UInt8} (h : vld l = true) (hn : l ≠ [48]) :
    ∃ e, fs (l.drop 1) 1 = some e ∧ l = 49 :: ((l.drop 1).take e ++ (l.drop 1).drop e) ∧ vld ((l.drop 1).take e) = true ∧ vld ((l.drop 1).drop e) = true ∧ e + 1 < l.length ∧ 1 ≤ e := by
  obtain ⟨hlen, hf⟩ := vld_iff.1 h
  cases l with
  | nil => simp [fs] at hf
  | cons c r =>
    by_cases h0 : c = 48
    · subst h0
      rw [fs_48, fs_zero] at hf
      simp at hf
      exact absurd (by rw [hf]) hn
    · by_cases h1 : c = 49
      · subst h1
        rw [fs_49] at hf
        obtain ⟨e', he', hx⟩ := Option.map_eq_some_iff.1 hf
        obtain ⟨e1, e2, g1, g2, g3⟩ := fs_sub (a := 1) (b := 1) he'
        have hle := fs_le g1
        have hge1 := fs_ge g1
        have hge2 := fs_ge g2
        simp only [List.length_cons] at hx hlen ⊢
        refine ⟨e1, g1, by simp, ?_, ?_, by omega, by omega⟩
        · refine vld_iff.2 ⟨by simp; omega, ?_⟩
          have := fs_take g1
          rw [List.drop_one, List.tail_cons, List.length_take, Nat.min_eq_left hle]
          exact this
        · refine vld_iff.2 ⟨by simp; omega, ?_⟩
          rw [List.drop_one, List.tail_cons]
          rw [g2, List.length_drop]
          congr 1; omega
      · rw [fs_bad c r 0 h0 h1] at hf; cases hf

/-- a pair of two valid trees -/
theorem fs_cons {a b : List UInt8} (ha : vld a = true) (hb : vld b = true) : fs (49 :: (a ++ b)) 1 = some (1 + a.length + b.length) := by
  obtain ⟨_, ha⟩ := vld_iff.1 ha
  obtain ⟨_, hb⟩ := vld_iff.1 hb
  rw [fs_49, show 0 + 2 = 1 + 1 from rfl, fs_add, fs_append b ha]
  simp only [Option.bind_some, List.drop_left, hb, Option.map_some]
  congr 1; omega
theorem vld_cons {a b : List UInt8} (ha : vld a = true) (hb : vld b = true) (h : 1 + a.length + b.length ≤ 2000000) : vld (49 :: (a ++ b)) = true :=
  vld_iff.2 ⟨by simp; omega, by rw [fs_cons ha hb]; simp; omega⟩

def hd (l : List UInt8) : List UInt8 := if l = [48] then [48] else (l.drop 1).take (sz (l.drop 1)).toNat
def tl (l : List UInt8) : List UInt8 := if l = [48] then [48] else (l.drop 1).drop (sz (l.drop 1)).toNat

theorem hd_cons {a b : List UInt8} (ha : vld a = true) : hd (49 :: (a ++ b)) = a ∧ tl (49 :: (a ++ b)) = b := by
  obtain ⟨_, hf⟩ := vld_iff.1 ha
  have h1 : sz (List.drop 1 (49 :: (a ++ b))) = (a.length : Int) := sz_some (by simpa using fs_append b hf)
  unfold hd tl
  rw [h1]
  simp
theorem cons_hd_tl {l : List UInt8} (h : vld l = true) (hn : l ≠ [48]) : 49 :: (hd l ++ tl l) = l ∧ vld (hd l) = true ∧ vld (tl l) = true := by
  obtain ⟨e, g1, g2, g3, g4, _, _⟩ := vld_pair h hn
  have h1 : sz (l.drop 1) = (e : Int) := sz_some g1
  unfold hd tl
  rw [if_neg hn, if_neg hn, h1]
  exact ⟨g2.symm, g3, g4⟩
theorem vld_hd {l : List UInt8} (h : vld l = true) : vld (hd l) = true ∧ vld (tl l) = true := by
  by_cases hn : l = [48]
  · subst hn; decide
  · exact (cons_hd_tl h hn).2

/-- P1.2 -/
theorem vld_more {l more : List UInt8} (h : vld l = true) (hm : more ≠ []) : vld (l ++ more) = false := by
  obtain ⟨_, hf⟩ := vld_iff.1 h
  cases hc : vld (l ++ more) with
  | false => rfl
  | true =>
  obtain ⟨_, hg⟩ := vld_iff.1 hc
  rw [fs_append more hf, List.length_append] at hg
  have := List.length_pos_iff.2 hm
  have := Option.some.inj hg
  omega
theorem vld_cut {l : List UInt8} {k : Nat} (h : vld l = true) (hk : k < l.length) : vld (l.take k) = false := by
  cases hc : vld (l.take k) with
  | false => rfl
  | true =>
  have hne : l.drop k ≠ [] := by
    intro e
    have := congrArg List.length e
    simp at this; omega
  have := vld_more hc hne
  rw [List.take_append_drop] at this
  rw [h] at this; cases this
def ones (l : List UInt8) : Nat := l.count 49
theorem vld_count {l : List UInt8} (h : vld l = true) : l.length = 2 * ones l + 1 := by
  unfold ones
  obtain ⟨_, hf⟩ := vld_iff.1 h
  have := fs_count hf
  rwa [List.take_length] at this

/-- the scan's relation: m trees are missing from place pos on -/
def Rel (L : List UInt8) (pos m : Nat) : Prop := fs L 1 = (fs (L.drop pos) m).map (pos + ·)
theorem Rel.start (L : List UInt8) : Rel L 0 1 := by unfold Rel; cases h : fs L 1 <;> simp [h]
theorem drop_cons {L : List UInt8} {pos : Nat} (h : pos < L.length) : L.drop pos = L[pos] :: L.drop (pos + 1) := List.drop_eq_getElem_cons h
theorem Rel.zero {L : List UInt8} {pos m : Nat} (h : Rel L pos (m + 1)) (hp : pos < L.length) (hc : L[pos] = 48) : Rel L (pos + 1) m := by
  unfold Rel at *
  rw [h, drop_cons hp, hc, fs_48]
  cases fs (L.drop (pos + 1)) m <;> simp; omega
theorem Rel.one {L : List UInt8} {pos m : Nat} (h : Rel L pos (m + 1)) (hp : pos < L.length) (hc : L[pos] = 49) : Rel L (pos + 1) (m + 2) := by
  unfold Rel at *
  rw [h, drop_cons hp, hc, fs_49]
  cases fs (L.drop (pos + 1)) (m + 2) <;> simp; omega
theorem Rel.done {L : List UInt8} {pos : Nat} (h : Rel L pos 0) : sz L = (pos : Int) := by
  unfold Rel at h
  rw [fs_zero] at h
  exact sz_some h
theorem sz_none {L : List UInt8} (h : fs L 1 = none) : sz L = -1 := by simp [sz, h]
theorem Rel.bad {L : List UInt8} {pos m : Nat} (h : Rel L pos (m + 1)) (hp : pos < L.length) (h0 : L[pos] ≠ 48) (h1 : L[pos] ≠ 49) : sz L = -1 := by
  unfold Rel at h
  rw [drop_cons hp, fs_bad _ _ _ h0 h1] at h
  exact sz_none h
theorem Rel.out {L : List UInt8} {pos m : Nat} (h : Rel L pos (m + 1)) (hp : L.length ≤ pos) : sz L = -1 := by
  unfold Rel at h
  rw [List.drop_of_length_le hp, fs_nil _ (by omega)] at h
  exact sz_none h

/-- a list of '10's, up to a last byte -/
def alt : List UInt8 → Bool
  | a :: b :: l => a == 49 && b == 48 && alt l
  | _ => true
def val (l : List UInt8) : Int := if alt l then ((l.length / 2 : Nat) : Int) else -1
def num (n : Nat) : List UInt8 := (List.replicate n [49, 48]).flatten ++ [48]
theorem num_succ (n : Nat) : num (n + 1) = 49 :: 48 :: num n := by simp [num, List.replicate_succ]
theorem num_len (n : Nat) : (num n).length = 2 * n + 1 := by
  induction n with
  | zero => rfl
  | succ n ih => rw [num_succ]; simp only [List.length_cons, ih]; omega
theorem num_fs (n : Nat) : fs (num n) 1 = some (2 * n + 1) := by
  induction n with
  | zero => rfl
  | succ n ih => rw [num_succ, fs_49, fs_48, ih]; simp; omega
theorem num_vld {n : Nat} (h : n ≤ 999999) : vld (num n) = true := vld_iff.2 ⟨by rw [num_len]; omega, by rw [num_fs, num_len]⟩
theorem num_alt (n : Nat) : alt (num n) = true := by
  induction n with
  | zero => rfl
  | succ n ih => rw [num_succ]; simp [alt, ih]
theorem num_val (n : Nat) : val (num n) = (n : Int) := by
  unfold val; rw [num_alt, if_pos rfl, num_len]; congr 1; omega
theorem alt_short {l : List UInt8} (h : l.length ≤ 1) : alt l = true := by
  match l, h with
  | [], _ => rfl
  | [_], _ => rfl
end Go.Proofs.YtmhoacnbmbhcjaaGreatDoor.Pl

namespace Go.Proofs.YtmhoacnbmbhcjaaGreatDoor
open Go.RowKit Pl

theorem ret_int {k : IntKind} {a b : Int} (h : a = b) : Ending.returned (.int k a) = .returned (.int k b) := by rw [h]
theorem ret_bool {a b : Bool} (h : a = b) : Ending.returned (.bool a) = .returned (.bool b) := by rw [h]
theorem ret_str {a b : ByteArray} (h : a = b) : Ending.returned (.string a) = .returned (.string b) := by rw [h]
theorem at_list (s : ByteArray) (pos : Nat) (h : pos < s.size) : ∃ h' : pos < s.data.toList.length, s.data.toList[pos] = s[pos] := ⟨by simpa using h, rfl⟩

theorem next_ascii_lit (w : World) (s : ByteArray) (pos : Nat) (ty : TypeId) (h : pos < s.size) (n : Nat) (hn : n < 128) (c : UInt8) (hc : s[pos] = c) (hcn : c.toNat = n) :
    (Instr.next (.pointer (some ⟨w.heap.size, 0, none⟩)) true ty).run Tryz.prog (w.iter s pos) =
      .ok (.tuple #[.bool true, .int .i64 pos, .int .i32 n]) (w.iter s (pos + 1)) := by
  have := run_next_ascii (P := Tryz.prog) w s pos ty h (by rw [hc]; omega)
  rw [this, hc, hcn]
theorem next_other (w : World) (s : ByteArray) (pos : Nat) (h : pos < s.size) (h0 : s[pos] ≠ 48) (h1 : s[pos] ≠ 49) :
    ∃ r q : Nat, r ≤ 2147483647 ∧ r ≠ 48 ∧ r ≠ 49 ∧ ∀ ty, (Instr.next (.pointer (some ⟨w.heap.size, 0, none⟩)) true ty).run Tryz.prog (w.iter s pos) =
      .ok (.tuple #[.bool true, .int .i64 pos, .int .i32 r]) (w.iter s q) := by
  refine ⟨(Utf8.decode s pos).1, pos + (Utf8.decode s pos).2, decode_le s pos, ?_, ?_, fun ty => run_next_any w s pos ty h⟩
  · by_cases ha : (s[pos]'h).toNat < 128
    · rw [decode_ascii s pos h ha]; intro e; exact h0 (UInt8.toNat_inj.1 e)
    · have := (decode_high s pos h (by omega)).1; omega
  · by_cases ha : (s[pos]'h).toNat < 128
    · rw [decode_ascii s pos h ha]; intro e; exact h1 (UInt8.toNat_inj.1 e)
    · have := (decode_high s pos h (by omega)).1; omega

set_option maxHeartbeats 400000 in
set_option maxRecDepth 100000 in
theorem firstSize_any (s : ByteArray) (w : World) (hs : s.size ≤ 281474976710656) :
    Calls Tryz.prog 152 #[.string s] w fun e w' => e = .returned (.int .i64 (sz s.data.toList)) ∧ Below w.heap.size w w' := by
  have hbl : ∀ pos, Below w.heap.size w (w.iter s pos) := fun pos => (Below.refl _ w).alloc (Nat.le_refl _) _
  have HB := Lib.hid hbl; clear hbl
  go_enter Tryz.func152, Tryz.ntmps152
  go_wp2
  go_loopw [3] (fun n w' => ∃ (pos m : Nat), w' = w.iter s pos ∧ n = .int .i64 m ∧ 1 ≤ m ∧ m ≤ pos + 1 ∧ pos ≤ s.size ∧ Rel s.data.toList pos m) (fun _ w' => s.size - w'.iterPos w.heap.size)
  case atStart => exact ⟨0, 1, rfl, rfl, by omega, by omega, by omega, Rel.start _⟩
  case round =>
    obtain ⟨pos, m, rfl, rfl, h1, hm, hps, hc⟩ := hrel
    by_cases hp : pos < s.size
    · obtain ⟨hl, hg⟩ := at_list s pos hp
      have HG := Lib.hid hg; clear hg
      by_cases c0 : s[pos] = 48
      · have C0 := Lib.hid c0
        have hnx : ∀ ty, (Instr.next (.pointer (some ⟨w.heap.size, 0, none⟩)) true ty).run Tryz.prog (w.iter s pos) = _ := fun ty => next_ascii_lit w s pos ty hp 48 (by omega) 48 c0 rfl
        clear c0
        by_cases hm1 : m = 1
        · subst hm1
          go_wp2
          go_ret
          exact ⟨ret_int (by rw [(hc.zero hl (by rw [HG.out, C0.out])).done]; simp), HB.out _⟩
        · have hz : ((m : Int) - 1 == 0) = false := beq_eq_false_iff_ne.2 (by omega)
          go_wp2
          go_roundw
          case rel => exact ⟨pos + 1, m - 1, rfl, by rw [Int.ofNat_sub h1]; rfl, by omega, by omega, by omega, Rel.zero (by rwa [Nat.sub_add_cancel h1]) hl (by rw [HG.out, C0.out])⟩
          case measure => simp; omega
      · by_cases c1 : s[pos] = 49
        · have C1 := Lib.hid c1
          have hnx : ∀ ty, (Instr.next (.pointer (some ⟨w.heap.size, 0, none⟩)) true ty).run Tryz.prog (w.iter s pos) = _ := fun ty => next_ascii_lit w s pos ty hp 49 (by omega) 49 c1 rfl
          clear c0 c1
          have hz : ((m : Int) + 1 == 0) = false := beq_eq_false_iff_ne.2 (by omega)
          go_wp2
          go_roundw
          case rel =>
            obtain ⟨m', rfl⟩ : ∃ m', m = m' + 1 := ⟨m - 1, by omega⟩
            exact ⟨pos + 1, m' + 1 + 1, rfl, by go_num, by omega, by omega, by omega, hc.one hl (by rw [HG.out, C1.out])⟩
          case measure => simp; omega
        · obtain ⟨r, q, hr, r0, r1, hnx⟩ := next_other w s pos hp c0 c1
          have e0 : ((r : Int) == 48) = false := beq_eq_false_iff_ne.2 (by omega)
          have e1 : ((r : Int) == 49) = false := beq_eq_false_iff_ne.2 (by omega)
          have C : Hid (sz s.data.toList = -1) := by
            obtain ⟨m', rfl⟩ : ∃ m', m = m' + 1 := ⟨m - 1, by omega⟩
            exact Lib.hid (hc.bad hl (by rw [HG.out]; exact c0) (by rw [HG.out]; exact c1))
          clear c0 c1
          go_wp2
          go_ret
          exact ⟨ret_int C.out.symm, HB.out _⟩
    · have hnx : ∀ ty, (Instr.next (.pointer (some ⟨w.heap.size, 0, none⟩)) true ty).run Tryz.prog (w.iter s pos) = _ := fun ty => run_next_end w s pos ty hp
      have C : Hid (sz s.data.toList = -1) := by
        obtain ⟨m', rfl⟩ : ∃ m', m = m' + 1 := ⟨m - 1, by omega⟩
        exact Lib.hid (hc.out (by have : s.data.toList.length = s.size := by simp
                                  omega))
      go_wp2
      go_ret
      exact ⟨ret_int C.out.symm, HB.out _⟩

theorem len_eq (s : ByteArray) : s.data.toList.length = s.size := by simp

set_option maxHeartbeats 400000 in
set_option maxRecDepth 100000 in
theorem Valid_any (s : ByteArray) (w : World) (hs : s.size ≤ 281474976710656) :
    Calls Tryz.prog 96 #[.string s] w fun e w' => e = .returned (.bool (vld s.data.toList)) ∧ Below w.heap.size w w' := by
  by_cases hl : s.size ≤ 2000000
  · have hv : vld s.data.toList = (sz s.data.toList == (s.size : Int)) := by
      have := sz_eq_len s.data.toList
      unfold vld
      rw [← this, len_eq, decide_eq_true hl, Bool.true_and]; rfl
    have HV := Lib.hid hv; clear hv
    have := sz_ge s.data.toList
    go_enter Tryz.func96, Tryz.ntmps96
    go_wp2_with (go_at_call 152; refine (firstSize_any s _ hs).mono ?_; rintro e w1 ⟨rfl, hb⟩)
    go_ret
    exact ⟨ret_bool HV.out.symm, hb⟩
  · have hv : vld s.data.toList = false := by
      unfold vld
      rw [len_eq, decide_eq_false hl, Bool.false_and]
    have HV := Lib.hid hv; clear hv
    go_enter Tryz.func96, Tryz.ntmps96
    go_wp2_with fail
    go_ret
    exact ⟨ret_bool HV.out.symm, Below.refl _ _⟩

def endAt (L : List UInt8) (a : Nat) : Int := match fs (L.drop a) 1 with | some e => (a : Int) + e | none => -1
theorem endAt_done {L : List UInt8} {a j : Nat} (h : Rel (L.drop a) j 0) : endAt L a = ((a + j : Nat) : Int) := by
  unfold Rel at h; rw [fs_zero] at h; unfold endAt; rw [h]; simp
theorem endAt_none {L : List UInt8} {a : Nat} (h : sz (L.drop a) = -1) : endAt L a = -1 := by
  unfold endAt; unfold sz at h; cases hx : fs (L.drop a) 1 with
  | none => rfl
  | some e => rw [hx] at h; simp at h
theorem at_drop (s : ByteArray) (a j : Nat) (h : a + j < s.size) : ∃ h' : j < (s.data.toList.drop a).length, (s.data.toList.drop a)[j] = s[a + j] :=
  ⟨by rw [List.length_drop, len_eq]; omega, by rw [List.getElem_drop]; rfl⟩

set_option maxHeartbeats 400000 in
set_option maxRecDepth 100000 in
theorem End_any (s : ByteArray) (a : Nat) (w : World) (hs : s.size ≤ 281474976710656) (ha : a ≤ s.size) :
    Calls Tryz.prog 78 #[.string s, .int .i64 a] w fun e w' => e = .returned (.int .i64 (endAt s.data.toList a)) ∧ w = w' := by
  go_enter Tryz.func78, Tryz.ntmps78
  go_wp2
  go_loop [1, 5] (fun p n => ∃ (j m : Nat), p = .int .i64 ((a + j : Nat) : Int) ∧ n = .int .i64 m ∧ m ≤ j + 1 ∧ a + j ≤ s.size ∧ Rel (s.data.toList.drop a) j m) (fun p _ => s.size - (intOf p).toNat)
  case atStart => exact ⟨0, 1, rfl, rfl, by omega, by omega, Rel.start _⟩
  case round =>
    obtain ⟨j, m, rfl, rfl, hm, hps, hc⟩ := hrel
    by_cases m0 : m = 0
    · subst m0
      have C := Lib.hid (endAt_done hc)
      go_wp2
      go_ret
      exact ⟨ret_int C.out.symm, rfl⟩
    · obtain ⟨k, rfl⟩ : ∃ k, m = k + 1 := ⟨m - 1, by omega⟩
      by_cases hp : a + j < s.size
      · obtain ⟨hl, hg⟩ := at_drop s a j hp
        have HG := Lib.hid hg; clear hg
        by_cases c0 : s[a + j] = 48
        · have C0 := Lib.hid c0
          go_wp2
          go_round
          case rel => exact ⟨j + 1, k, by go_num, rfl, by omega, by omega, hc.zero hl (by rw [HG.out, C0.out])⟩
          case measure => simp [intOf]; omega
        · by_cases c1 : s[a + j] = 49
          · have C1 := Lib.hid c1
            clear c0
            go_wp2
            go_round
            case rel => exact ⟨j + 1, k + 1 + 1, by go_num, by go_num, by omega, by omega, hc.one hl (by rw [HG.out, C1.out])⟩
            case measure => simp [intOf]; omega
          · have C : Hid (endAt s.data.toList a = -1) := Lib.hid (endAt_none (hc.bad hl (by rw [HG.out]; exact c0) (by rw [HG.out]; exact c1)))
            have n0 : ((s[a + j].toNat : Int) != 48) = true := by rw [bne_iff_ne]; intro e; exact c0 (UInt8.toNat_inj.1 (by simpa using Int.ofNat.inj e))
            have n1 : ((s[a + j].toNat : Int) != 49) = true := by rw [bne_iff_ne]; intro e; exact c1 (UInt8.toNat_inj.1 (by simpa using Int.ofNat.inj e))
            have n2 : ((s[a + j].toNat : Int) == 48) = false := by rw [beq_eq_false_iff_ne]; intro e; exact c0 (UInt8.toNat_inj.1 (by simpa using Int.ofNat.inj e))
            clear c0 c1
            go_wp2
            go_ret
            exact ⟨ret_int C.out.symm, rfl⟩
      · have C : Hid (endAt s.data.toList a = -1) := Lib.hid (endAt_none (hc.out (by rw [List.length_drop, len_eq]; omega)))
        go_wp2
        go_ret
        exact ⟨ret_int C.out.symm, rfl⟩
end Go.Proofs.YtmhoacnbmbhcjaaGreatDoor

namespace Go.Proofs.YtmhoacnbmbhcjaaGreatDoor
open Go.RowKit Pl

/-- a list of bytes as a string -/
abbrev S (l : List UInt8) : ByteArray := ⟨l.toArray⟩
theorem S_eq (s : ByteArray) : s = S s.data.toList := by apply ByteArray.ext; simp
theorem S_inj {s : ByteArray} {l : List UInt8} (h : s.data.toList = l) : s = S l := by rw [← h]
theorem ex_list (s : ByteArray) (a b : Nat) : (s.extract a b).data.toList = (s.data.toList.take b).drop a := by
  rw [ByteArray.data_extract, Array.toList_extract, List.extract_eq_take_drop, List.drop_take]
theorem ex_end (s : ByteArray) (a : Nat) : (s.extract a s.size).data.toList = s.data.toList.drop a := by
  rw [ex_list, List.take_of_length_le (by rw [len_eq]; exact Nat.le_refl _)]
theorem ne_str {s : ByteArray} {l : List UInt8} (h : s.data.toList ≠ l) : (s.toList == l) = false := by
  rw [ByteArray.toList_eq, beq_eq_false_iff_ne]; exact h

theorem bdrewN {B : Nat} {a w : World} (h : Below B a w) (n : Nat) : Below B a (w.drewN n) := h.trans ⟨rfl, rfl, rfl, Nat.le_refl _, fun _ _ => rfl⟩
theorem ret_ss {a b c d : ByteArray} (h1 : a = c) (h2 : b = d) : Ending.returned (.tuple #[.string a, .string b]) = .returned (.tuple #[.string c, .string d]) := by rw [h1, h2]
theorem firstSize_at (s : ByteArray) (e : Nat) (w : World) (hs : s.size ≤ 281474976710656) (h : fs s.data.toList 1 = some e) :
    Calls Tryz.prog 152 #[.string s] w fun x w' => x = .returned (.int .i64 e) ∧ Below w.heap.size w w' :=
  (firstSize_any s w hs).mono fun x w' ⟨h1, h2⟩ => ⟨by rw [h1, sz_some h], h2⟩

set_option maxHeartbeats 400000 in
set_option maxRecDepth 100000 in
theorem parts_any (s : ByteArray) (w : World) (hv : vld s.data.toList = true) :
    Calls Tryz.prog 154 #[.string s] w fun x w' => x = .returned (.tuple #[.string (S (hd s.data.toList)), .string (S (tl s.data.toList))]) ∧ Below w.heap.size w w' := by
  by_cases h0 : s.data.toList = [48]
  · obtain rfl : s = S [48] := S_inj h0
    go_enter Tryz.func154, Tryz.ntmps154
    go_wp2_with fail
    go_ret2
    exact ⟨rfl, Below.refl _ _⟩
  · obtain ⟨e, g1, _, _, _, g5, g6⟩ := vld_pair hv h0
    have hl := (vld_iff.1 hv).1
    rw [len_eq] at hl g5
    have hh : hd s.data.toList = ((s.extract 1 (1 + e)).data.toList) := by
      unfold hd; rw [if_neg h0, sz_some g1, ex_list, List.drop_take]; simp
    have ht : tl s.data.toList = ((s.extract (1 + e) s.size).data.toList) := by
      unfold tl; rw [if_neg h0, sz_some g1, ex_end, List.drop_drop]; simp
    have H1 := Lib.hid hh; have H2 := Lib.hid ht; clear hh ht
    have G := Lib.hid (show fs (s.extract 1 s.size).data.toList 1 = some e by rw [ex_end]; exact g1)
    have hx : (s.extract 1 s.size).size ≤ 281474976710656 := by rw [ByteArray.size_extract]; omega
    have hne := ne_str h0
    clear h0 hv g1
    have b1 : (1 : Int) + e ≤ s.size := by omega
    have b2 : (0 : Int) ≤ 1 + e := by omega
    have b3 : ((1 : Int) + e).toNat = 1 + e := by omega
    go_enter Tryz.func154, Tryz.ntmps154
    go_wp2_with (go_at_call 152; refine (firstSize_at _ e _ hx G.out).mono ?_; rintro x w1 ⟨rfl, hb⟩)
    go_quiet (fail)
    go_wp2
    go_ret2
    exact ⟨ret_ss (S_inj H1.out.symm) (S_inj H2.out.symm), bdrewN hb _⟩

set_option maxHeartbeats 400000 in
set_option maxRecDepth 100000 in
theorem rValid_any (s : ByteArray) (w : World) (hs : s.size ≤ 281474976710656) :
    Calls Tryz.prog 28 #[.string s] w fun e w' => e = .returned (.bool (vld s.data.toList)) ∧ w = w' := by
  by_cases hl : s.size ≤ 2000000
  · have hv : vld s.data.toList = (endAt s.data.toList 0 == (s.size : Int)) := by
      have h1 := sz_eq_len s.data.toList
      have h2 : endAt s.data.toList 0 = sz s.data.toList := by unfold endAt sz; rw [List.drop_zero]; cases fs s.data.toList 1 <;> simp
      rw [h2]
      unfold vld
      rw [← h1, len_eq, decide_eq_true hl, Bool.true_and]; rfl
    have HV := Lib.hid hv; clear hv
    have hE := End_any s 0 w hs (Nat.zero_le _)
    have HE := Lib.hid hE; clear hE
    go_enter Tryz.func28, Tryz.ntmps28
    go_wp2_with (go_at_call 78; refine HE.out.mono ?_; rintro e w1 ⟨rfl, rfl⟩)
    go_ret
    exact ⟨ret_bool HV.out.symm, rfl⟩
  · have hv : vld s.data.toList = false := by
      unfold vld
      rw [len_eq, decide_eq_false hl, Bool.false_and]
    have HV := Lib.hid hv; clear hv
    go_enter Tryz.func28, Tryz.ntmps28
    go_wp2_with fail
    go_ret
    exact ⟨ret_bool HV.out.symm, rfl⟩
end Go.Proofs.YtmhoacnbmbhcjaaGreatDoor

namespace Go.Proofs
open Go.Shelf
def Tryz.lays170_ren : Go.Shelf.Ren := ⟨fun | 170 => 110 | n => n, fun | 70 => 129 | 3 => 3 | 0 => 0 | 72 => 131 | 37 => 105 | 5 => 5 | n => n, fun | n => n⟩
theorem Tryz.lays170 : Go.Proofs.Lays.n170 Tryz.prog Tryz.lays170_ren := {
  mixed := by kernel_rfl
  f170 := Tryz.func110.trans (congrArg some (by kernel_rfl))
  t0 := Tryz.underlying0
  a0 := Tryz.isAgg0
  z0 := Tryz.sizeOf0
  v0 := Tryz.zeroValue0
  t3 := Tryz.underlying3
  a3 := Tryz.isAgg3
  z3 := Tryz.sizeOf3
  v3 := Tryz.zeroValue3
  t37 := Tryz.underlying105
  a37 := Tryz.isAgg105
  z37 := Tryz.sizeOf105
  v37 := Tryz.zeroValue105
  t70 := Tryz.underlying129
  a70 := Tryz.isAgg129
  z70 := Tryz.sizeOf129
  v70 := Tryz.zeroValue129
  t72 := Tryz.underlying131
  a72 := Tryz.isAgg131
  z72 := Tryz.sizeOf131
  v72 := Tryz.zeroValue131 }
open Go.RowKit in
theorem Tryz.Builder_Len (B b : Nat) (bs : List Value) (w : World) (h : Lib.IsBuilder 131 5 B b bs w) :
    Calls Tryz.prog 110 #[.pointer (some ⟨b, 0, none⟩)] w fun e w' => e = .returned (.int .i64 bs.length) ∧ w' = w := Any.Builder_Len Tryz.lays170 B b bs w h
def Tryz.lays169_ren : Go.Shelf.Ren := ⟨fun | 169 => 113 | n => n, fun | 70 => 129 | 9 => 9 | 0 => 0 | 72 => 131 | 37 => 105 | 127 => 187 | 3 => 3 | 5 => 5 | n => n, fun | n => n⟩
theorem Tryz.lays169 : Go.Proofs.Lays.n169 Tryz.prog Tryz.lays169_ren := {
  mixed := by kernel_rfl
  f169 := Tryz.func113.trans (congrArg some (by kernel_rfl))
  t0 := Tryz.underlying0
  a0 := Tryz.isAgg0
  z0 := Tryz.sizeOf0
  v0 := Tryz.zeroValue0
  t3 := Tryz.underlying3
  a3 := Tryz.isAgg3
  z3 := Tryz.sizeOf3
  v3 := Tryz.zeroValue3
  t9 := Tryz.underlying9
  a9 := Tryz.isAgg9
  z9 := Tryz.sizeOf9
  v9 := Tryz.zeroValue9
  t37 := Tryz.underlying105
  a37 := Tryz.isAgg105
  z37 := Tryz.sizeOf105
  v37 := Tryz.zeroValue105
  t70 := Tryz.underlying129
  a70 := Tryz.isAgg129
  z70 := Tryz.sizeOf129
  v70 := Tryz.zeroValue129
  t72 := Tryz.underlying131
  a72 := Tryz.isAgg131
  z72 := Tryz.sizeOf131
  v72 := Tryz.zeroValue131
  t127 := Tryz.underlying187
  a127 := Tryz.isAgg187
  z127 := Tryz.sizeOf187
  v127 := Tryz.zeroValue187 }
theorem Tryz.Builder_Extra_169 : Builder.Extra Tryz.prog Tryz.lays169_ren := {
  sizeBuilder := by kernel_rfl
  liesBuilder := by kernel_rfl
  t5 := Tryz.underlying5
  a5 := Tryz.isAgg5
  z5 := Tryz.sizeOf5
  v5 := Tryz.zeroValue5
  infoByte := by kernel_rfl
  cellsByte := by kernel_rfl
  sizeByte := by kernel_rfl
  neB5 := by decide }
open Go.RowKit in
theorem Tryz.Builder_String_any (B b : Nat) (l : List UInt8) (w : World) (h : Lib.IsBuilder 131 5 B b (Lib.byteCells l) w) (hBw : B ≤ w.heap.size) :
    Calls Tryz.prog 113 #[.pointer (some ⟨b, 0, none⟩)] w fun e w' => e = .returned (.string ⟨l.toArray⟩) ∧ Below B w w' := Any.Builder_String_any Tryz.lays169 Tryz.Builder_Extra_169 B b l w h hBw
def Tryz.lays165_ren : Go.Shelf.Ren := ⟨fun | 165 => 151 | 240 => 159 | 241 => 202 | 276 => 207 | 277 => 218 | n => n, fun | 70 => 129 | 3 => 3 | 0 => 0 | 4 => 4 | 9 => 9 | 20 => 20 | 72 => 131 | 37 => 105 | 164 => 210 | 5 => 5 | n => n, fun | n => n⟩
theorem Tryz.lays165 : Go.Proofs.Lays.n165 Tryz.prog Tryz.lays165_ren := {
  mixed := by kernel_rfl
  f165 := Tryz.func151.trans (congrArg some (by kernel_rfl))
  f240 := Tryz.func159.trans (congrArg some (by kernel_rfl))
  f241 := Tryz.func202.trans (congrArg some (by kernel_rfl))
  f276 := Tryz.func207.trans (congrArg some (by kernel_rfl))
  f277 := Tryz.func218.trans (congrArg some (by kernel_rfl))
  t0 := Tryz.underlying0
  a0 := Tryz.isAgg0
  z0 := Tryz.sizeOf0
  v0 := Tryz.zeroValue0
  t3 := Tryz.underlying3
  a3 := Tryz.isAgg3
  z3 := Tryz.sizeOf3
  v3 := Tryz.zeroValue3
  t4 := Tryz.underlying4
  a4 := Tryz.isAgg4
  z4 := Tryz.sizeOf4
  v4 := Tryz.zeroValue4
  t9 := Tryz.underlying9
  a9 := Tryz.isAgg9
  z9 := Tryz.sizeOf9
  v9 := Tryz.zeroValue9
  t20 := Tryz.underlying20
  a20 := Tryz.isAgg20
  z20 := Tryz.sizeOf20
  v20 := Tryz.zeroValue20
  t37 := Tryz.underlying105
  a37 := Tryz.isAgg105
  z37 := Tryz.sizeOf105
  v37 := Tryz.zeroValue105
  t70 := Tryz.underlying129
  a70 := Tryz.isAgg129
  z70 := Tryz.sizeOf129
  v70 := Tryz.zeroValue129
  t72 := Tryz.underlying131
  a72 := Tryz.isAgg131
  z72 := Tryz.sizeOf131
  v72 := Tryz.zeroValue131
  t164 := Tryz.underlying210
  a164 := Tryz.isAgg210
  z164 := Tryz.sizeOf210
  v164 := Tryz.zeroValue210 }
theorem Tryz.Builder_Extra_165 : Builder.Extra Tryz.prog Tryz.lays165_ren := {
  sizeBuilder := by kernel_rfl
  liesBuilder := by kernel_rfl
  t5 := Tryz.underlying5
  a5 := Tryz.isAgg5
  z5 := Tryz.sizeOf5
  v5 := Tryz.zeroValue5
  infoByte := by kernel_rfl
  cellsByte := by kernel_rfl
  sizeByte := by kernel_rfl
  neB5 := by decide }
open Go.RowKit in
theorem Tryz.Builder_Grow_fresh (B b n : Nat) (w : World) (hB : B ≤ b) (hbk : w.heap[b]? = some (.cells #[.pointer none, .slice none 0 0] 131 (0, 0))) (hBw : B ≤ w.heap.size) (hn : n ≤ 281474976710656) :
    Calls Tryz.prog 151 #[.pointer (some ⟨b, 0, none⟩), .int .i64 n] w fun e w' => e = .returned (.tuple #[]) ∧ (Lib.BuilderAt 131 5 B b (.pointer (some ⟨b, 0, none⟩)) [] w' ∧ Below B w w') := Any.Builder_Grow_fresh Tryz.lays165 Tryz.Builder_Extra_165 B b n w hB hbk hBw hn
def Tryz.laysM316_ren : Go.Shelf.Ren := ⟨fun | 316 => 170 | n => n, fun | 9 => 9 | 3 => 3 | 4 => 4 | 37 => 105 | 0 => 0 | 127 => 187 | 5 => 5 | n => n, fun | n => n⟩
theorem Tryz.laysM316 : Go.Proofs.LaysM.n316 Tryz.prog Tryz.laysM316_ren := {
  mixed := by kernel_rfl
  f316 := Tryz.func170.trans (congrArg some (by kernel_rfl))
  t0 := Tryz.underlying0
  a0 := Tryz.isAgg0
  z0 := Tryz.sizeOf0
  v0 := Tryz.zeroValue0
  t3 := Tryz.underlying3
  a3 := Tryz.isAgg3
  z3 := Tryz.sizeOf3
  v3 := Tryz.zeroValue3
  t4 := Tryz.underlying4
  a4 := Tryz.isAgg4
  z4 := Tryz.sizeOf4
  v4 := Tryz.zeroValue4
  t9 := Tryz.underlying9
  a9 := Tryz.isAgg9
  z9 := Tryz.sizeOf9
  v9 := Tryz.zeroValue9
  t37 := Tryz.underlying105
  a37 := Tryz.isAgg105
  z37 := Tryz.sizeOf105
  v37 := Tryz.zeroValue105
  t127 := Tryz.underlying187
  a127 := Tryz.isAgg187
  z127 := Tryz.sizeOf187
  v127 := Tryz.zeroValue187
  t5 := Tryz.underlying5
  a5 := Tryz.isAgg5
  z5 := Tryz.sizeOf5
  v5 := Tryz.zeroValue5
  i0 := by kernel_rfl
  i3 := by kernel_rfl
  i4 := by kernel_rfl
  i5 := by kernel_rfl
  i9 := by kernel_rfl
  i37 := by kernel_rfl
  i127 := by kernel_rfl }
open Go.RowKit in
theorem Tryz.stringslite_Clone (s : ByteArray) (w : World) (hlim : s.size ≤ 281474976710656) :
    Calls Tryz.prog 170 #[.string s] w fun e w' => e = .returned (.string s) ∧ Below w.heap.size w w' := Any.stringslite_Clone Tryz.laysM316 s w hlim
def Tryz.lays144_ren : Go.Shelf.Ren := ⟨fun | 144 => 219 | 143 => 210 | 219 => 225 | 217 => 239 | 225 => 240 | 224 => 241 | 267 => 242 | 266 => 253 | 314 => 254 | n => n, fun | 9 => 9 | 4 => 4 | 3 => 3 | 5 => 5 | 46 => 218 | 146 => 235 | 51 => 234 | n => n, fun | 1 => 0 | n => n⟩
theorem Tryz.lays144 : Go.Proofs.Lays.n144 Tryz.prog Tryz.lays144_ren := {
  mixed := by kernel_rfl
  f143 := Tryz.func210.trans (congrArg some (by kernel_rfl))
  f144 := Tryz.func219.trans (congrArg some (by kernel_rfl))
  f217 := Tryz.func239.trans (congrArg some (by kernel_rfl))
  f219 := Tryz.func225.trans (congrArg some (by kernel_rfl))
  f224 := Tryz.func241.trans (congrArg some (by kernel_rfl))
  f225 := Tryz.func240.trans (congrArg some (by kernel_rfl))
  f266 := Tryz.func253.trans (congrArg some (by kernel_rfl))
  f267 := Tryz.func242.trans (congrArg some (by kernel_rfl))
  f314 := Tryz.func254.trans (congrArg some (by kernel_rfl))
  t3 := Tryz.underlying3
  a3 := Tryz.isAgg3
  z3 := Tryz.sizeOf3
  v3 := Tryz.zeroValue3
  t4 := Tryz.underlying4
  a4 := Tryz.isAgg4
  z4 := Tryz.sizeOf4
  v4 := Tryz.zeroValue4
  t5 := Tryz.underlying5
  a5 := Tryz.isAgg5
  z5 := Tryz.sizeOf5
  v5 := Tryz.zeroValue5
  t9 := Tryz.underlying9
  a9 := Tryz.isAgg9
  z9 := Tryz.sizeOf9
  v9 := Tryz.zeroValue9
  t46 := Tryz.underlying218
  a46 := Tryz.isAgg218
  z46 := Tryz.sizeOf218
  v46 := Tryz.zeroValue218
  t51 := Tryz.underlying234
  a51 := Tryz.isAgg234
  z51 := Tryz.sizeOf234
  v51 := Tryz.zeroValue234
  t146 := Tryz.underlying235
  a146 := Tryz.isAgg235
  z146 := Tryz.sizeOf235
  v146 := Tryz.zeroValue235
  g1 := by kernel_rfl }
open Go.RowKit Go.Lib in
theorem Tryz.strings_Contains (s sub : ByteArray) (m : Int) (w : World) (hs : s.size < 4294967281) (hm : w.cell? ⟨0, 0, none⟩ = some (.int .i64 m)) :
    Calls Tryz.prog 219 #[.string s, .string sub] w fun e w' => e = .returned (.bool (Lib.contains s.data.toList sub.data.toList)) ∧ w' = w := Any.strings_Contains Tryz.lays144 s sub m w hs hm
def Tryz.lays138_ren : Go.Shelf.Ren := ⟨fun | 138 => 209 | 195 => 222 | 218 => 224 | 143 => 210 | 219 => 225 | 217 => 239 | 225 => 240 | 224 => 241 | 267 => 242 | 266 => 253 | 314 => 254 | n => n, fun | 9 => 9 | 3 => 3 | 4 => 4 | 5 => 5 | 0 => 0 | 46 => 218 | 146 => 235 | 51 => 234 | n => n, fun | 1 => 0 | n => n⟩
theorem Tryz.lays138 : Go.Proofs.Lays.n138 Tryz.prog Tryz.lays138_ren := {
  mixed := by kernel_rfl
  f138 := Tryz.func209.trans (congrArg some (by kernel_rfl))
  f143 := Tryz.func210.trans (congrArg some (by kernel_rfl))
  f195 := Tryz.func222.trans (congrArg some (by kernel_rfl))
  f217 := Tryz.func239.trans (congrArg some (by kernel_rfl))
  f218 := Tryz.func224.trans (congrArg some (by kernel_rfl))
  f219 := Tryz.func225.trans (congrArg some (by kernel_rfl))
  f224 := Tryz.func241.trans (congrArg some (by kernel_rfl))
  f225 := Tryz.func240.trans (congrArg some (by kernel_rfl))
  f266 := Tryz.func253.trans (congrArg some (by kernel_rfl))
  f267 := Tryz.func242.trans (congrArg some (by kernel_rfl))
  f314 := Tryz.func254.trans (congrArg some (by kernel_rfl))
  t0 := Tryz.underlying0
  a0 := Tryz.isAgg0
  z0 := Tryz.sizeOf0
  v0 := Tryz.zeroValue0
  t3 := Tryz.underlying3
  a3 := Tryz.isAgg3
  z3 := Tryz.sizeOf3
  v3 := Tryz.zeroValue3
  t4 := Tryz.underlying4
  a4 := Tryz.isAgg4
  z4 := Tryz.sizeOf4
  v4 := Tryz.zeroValue4
  t5 := Tryz.underlying5
  a5 := Tryz.isAgg5
  z5 := Tryz.sizeOf5
  v5 := Tryz.zeroValue5
  t9 := Tryz.underlying9
  a9 := Tryz.isAgg9
  z9 := Tryz.sizeOf9
  v9 := Tryz.zeroValue9
  t46 := Tryz.underlying218
  a46 := Tryz.isAgg218
  z46 := Tryz.sizeOf218
  v46 := Tryz.zeroValue218
  t51 := Tryz.underlying234
  a51 := Tryz.isAgg234
  z51 := Tryz.sizeOf234
  v51 := Tryz.zeroValue234
  t146 := Tryz.underlying235
  a146 := Tryz.isAgg235
  z146 := Tryz.sizeOf235
  v146 := Tryz.zeroValue235
  g1 := by kernel_rfl }
open Go.RowKit Go.Lib in
theorem Tryz.strings_Count_one (s : ByteArray) (c : UInt8) (w : World) :
    Calls Tryz.prog 209 #[.string s, .string ⟨#[c]⟩] w fun e w' => e = .returned (.int .i64 (Lib.countByte s.data.toList c)) ∧ w' = w := Any.strings_Count_one Tryz.lays138 s c w
def Tryz.lays105_ren : Go.Shelf.Ren := ⟨fun | 105 => 206 | 212 => 220 | 99 => 221 | 165 => 151 | 166 => 112 | 170 => 110 | 169 => 113 | 263 => 235 | 264 => 236 | 206 => 237 | 240 => 159 | 241 => 202 | 276 => 207 | 277 => 218 | n => n, fun | 9 => 9 | 3 => 3 | 4 => 4 | 20 => 20 | 0 => 0 | 46 => 218 | 109 => 219 | 5 => 5 | 72 => 131 | 76 => 136 | 51 => 234 | 146 => 235 | 53 => 225 | 148 => 237 | 70 => 129 | 37 => 105 | 75 => 134 | 127 => 187 | 164 => 210 | 80 => 138 | n => n, fun | n => n⟩
theorem Tryz.lays105 : Go.Proofs.Lays.n105 Tryz.prog Tryz.lays105_ren := {
  mixed := by kernel_rfl
  f99 := Tryz.func221.trans (congrArg some (by kernel_rfl))
  f105 := Tryz.func206.trans (congrArg some (by kernel_rfl))
  f165 := Tryz.func151.trans (congrArg some (by kernel_rfl))
  f166 := Tryz.func112.trans (congrArg some (by kernel_rfl))
  f169 := Tryz.func113.trans (congrArg some (by kernel_rfl))
  f170 := Tryz.func110.trans (congrArg some (by kernel_rfl))
  f206 := Tryz.func237.trans (congrArg some (by kernel_rfl))
  f212 := Tryz.func220.trans (congrArg some (by kernel_rfl))
  f240 := Tryz.func159.trans (congrArg some (by kernel_rfl))
  f241 := Tryz.func202.trans (congrArg some (by kernel_rfl))
  f263 := Tryz.func235.trans (congrArg some (by kernel_rfl))
  f264 := Tryz.func236.trans (congrArg some (by kernel_rfl))
  f276 := Tryz.func207.trans (congrArg some (by kernel_rfl))
  f277 := Tryz.func218.trans (congrArg some (by kernel_rfl))
  t0 := Tryz.underlying0
  a0 := Tryz.isAgg0
  z0 := Tryz.sizeOf0
  v0 := Tryz.zeroValue0
  t3 := Tryz.underlying3
  a3 := Tryz.isAgg3
  z3 := Tryz.sizeOf3
  v3 := Tryz.zeroValue3
  t4 := Tryz.underlying4
  a4 := Tryz.isAgg4
  z4 := Tryz.sizeOf4
  v4 := Tryz.zeroValue4
  t5 := Tryz.underlying5
  a5 := Tryz.isAgg5
  z5 := Tryz.sizeOf5
  v5 := Tryz.zeroValue5
  t9 := Tryz.underlying9
  a9 := Tryz.isAgg9
  z9 := Tryz.sizeOf9
  v9 := Tryz.zeroValue9
  t20 := Tryz.underlying20
  a20 := Tryz.isAgg20
  z20 := Tryz.sizeOf20
  v20 := Tryz.zeroValue20
  t37 := Tryz.underlying105
  a37 := Tryz.isAgg105
  z37 := Tryz.sizeOf105
  v37 := Tryz.zeroValue105
  t46 := Tryz.underlying218
  a46 := Tryz.isAgg218
  z46 := Tryz.sizeOf218
  v46 := Tryz.zeroValue218
  t51 := Tryz.underlying234
  a51 := Tryz.isAgg234
  z51 := Tryz.sizeOf234
  v51 := Tryz.zeroValue234
  t53 := Tryz.underlying225
  a53 := Tryz.isAgg225
  z53 := Tryz.sizeOf225
  v53 := Tryz.zeroValue225
  t70 := Tryz.underlying129
  a70 := Tryz.isAgg129
  z70 := Tryz.sizeOf129
  v70 := Tryz.zeroValue129
  t72 := Tryz.underlying131
  a72 := Tryz.isAgg131
  z72 := Tryz.sizeOf131
  v72 := Tryz.zeroValue131
  t75 := Tryz.underlying134
  a75 := Tryz.isAgg134
  z75 := Tryz.sizeOf134
  v75 := Tryz.zeroValue134
  t76 := Tryz.underlying136
  a76 := Tryz.isAgg136
  z76 := Tryz.sizeOf136
  v76 := Tryz.zeroValue136
  t109 := Tryz.underlying219
  a109 := Tryz.isAgg219
  z109 := Tryz.sizeOf219
  v109 := Tryz.zeroValue219
  t127 := Tryz.underlying187
  a127 := Tryz.isAgg187
  z127 := Tryz.sizeOf187
  v127 := Tryz.zeroValue187
  t146 := Tryz.underlying235
  a146 := Tryz.isAgg235
  z146 := Tryz.sizeOf235
  v146 := Tryz.zeroValue235
  t148 := Tryz.underlying237
  a148 := Tryz.isAgg237
  z148 := Tryz.sizeOf237
  v148 := Tryz.zeroValue237
  t164 := Tryz.underlying210
  a164 := Tryz.isAgg210
  z164 := Tryz.sizeOf210
  v164 := Tryz.zeroValue210 }
theorem Tryz.Builder_Extra_105 : Builder.Extra Tryz.prog Tryz.lays105_ren := {
  sizeBuilder := by kernel_rfl
  liesBuilder := by kernel_rfl
  t5 := Tryz.underlying5
  a5 := Tryz.isAgg5
  z5 := Tryz.sizeOf5
  v5 := Tryz.zeroValue5
  infoByte := by kernel_rfl
  cellsByte := by kernel_rfl
  sizeByte := by kernel_rfl
  neB5 := by decide }
open Go.RowKit Go.Lib in
theorem Tryz.strings_Repeat (s : ByteArray) (c : Nat) (w : World) (hc : c ≤ 9223372036854775807) (hlen : s.size * c ≤ 140737488355328) :
    Calls Tryz.prog 206 #[.string s, .int .i64 c] w fun e w' => e = .returned (.string ⟨(Lib.repeatL s.data.toList c).toArray⟩) ∧ Below w.heap.size w w' := Any.strings_Repeat Tryz.lays105 Tryz.Builder_Extra_105 s c w hc hlen

def Tryz.lays166_ren : Go.Shelf.Ren := ⟨fun | 166 => 112 | 240 => 159 | 276 => 207 | n => n, fun | 70 => 129 | 3 => 3 | 0 => 0 | 4 => 4 | 9 => 9 | 20 => 20 | 72 => 131 | 37 => 105 | 75 => 134 | 80 => 138 | 164 => 210 | 5 => 5 | n => n, fun | n => n⟩
theorem Tryz.lays166 : Go.Proofs.Lays.n166 Tryz.prog Tryz.lays166_ren := {
  mixed := by kernel_rfl
  f166 := Tryz.func112.trans (congrArg some (by kernel_rfl))
  f240 := Tryz.func159.trans (congrArg some (by kernel_rfl))
  f276 := Tryz.func207.trans (congrArg some (by kernel_rfl))
  t0 := Tryz.underlying0
  a0 := Tryz.isAgg0
  z0 := Tryz.sizeOf0
  v0 := Tryz.zeroValue0
  t3 := Tryz.underlying3
  a3 := Tryz.isAgg3
  z3 := Tryz.sizeOf3
  v3 := Tryz.zeroValue3
  t4 := Tryz.underlying4
  a4 := Tryz.isAgg4
  z4 := Tryz.sizeOf4
  v4 := Tryz.zeroValue4
  t9 := Tryz.underlying9
  a9 := Tryz.isAgg9
  z9 := Tryz.sizeOf9
  v9 := Tryz.zeroValue9
  t20 := Tryz.underlying20
  a20 := Tryz.isAgg20
  z20 := Tryz.sizeOf20
  v20 := Tryz.zeroValue20
  t37 := Tryz.underlying105
  a37 := Tryz.isAgg105
  z37 := Tryz.sizeOf105
  v37 := Tryz.zeroValue105
  t70 := Tryz.underlying129
  a70 := Tryz.isAgg129
  z70 := Tryz.sizeOf129
  v70 := Tryz.zeroValue129
  t72 := Tryz.underlying131
  a72 := Tryz.isAgg131
  z72 := Tryz.sizeOf131
  v72 := Tryz.zeroValue131
  t75 := Tryz.underlying134
  a75 := Tryz.isAgg134
  z75 := Tryz.sizeOf134
  v75 := Tryz.zeroValue134
  t164 := Tryz.underlying210
  a164 := Tryz.isAgg210
  z164 := Tryz.sizeOf210
  v164 := Tryz.zeroValue210 }
theorem Tryz.Builder_Extra_166 : Builder.Extra Tryz.prog Tryz.lays166_ren := {
  sizeBuilder := by kernel_rfl
  liesBuilder := by kernel_rfl
  t5 := Tryz.underlying5
  a5 := Tryz.isAgg5
  z5 := Tryz.sizeOf5
  v5 := Tryz.zeroValue5
  infoByte := by kernel_rfl
  cellsByte := by kernel_rfl
  sizeByte := by kernel_rfl
  neB5 := by decide }
open Go.RowKit in
theorem Tryz.Builder_WriteString (B b : Nat) (bs : List Value) (s : ByteArray) (w : World) (h : Lib.IsBuilder 131 5 B b bs w) (hlen : bs.length + s.size ≤ 140737488355328) (hBw : B ≤ w.heap.size) :
    Calls Tryz.prog 112 #[.pointer (some ⟨b, 0, none⟩), .string s] w fun e w' => e = .returned (.tuple #[.int .i64 s.size, .nilIface]) ∧ (Lib.BuilderAt 131 5 B b (.pointer (some ⟨b, 0, none⟩)) (bs ++ Lib.strCells s) w' ∧ Below B w w') := Any.Builder_WriteString Tryz.lays166 Tryz.Builder_Extra_166 B b bs s w h hlen hBw
end Go.Proofs

namespace Go.Proofs.YtmhoacnbmbhcjaaGreatDoor
open Go.RowKit Pl

theorem bstep {w w1 w2 : World} (h1 : Below w.heap.size w w1) (h2 : Below w1.heap.size w1 w2) : Below w.heap.size w w2 := h1.trans (h2.mono h1.size)
theorem vld_size {s : ByteArray} (h : vld s.data.toList = true) : s.size ≤ 2000000 := by have := (vld_iff.1 h).1; rwa [len_eq] at this
theorem Valid_is (b : Bool) (s : ByteArray) (w : World) (hs : s.size ≤ 281474976710656) (h : vld s.data.toList = b) :
    Calls Tryz.prog 96 #[.string s] w fun e w' => e = .returned (.bool b) ∧ Below w.heap.size w w' := by
  rw [← h]; exact Valid_any s w hs

set_option maxHeartbeats 400000 in
set_option maxRecDepth 100000 in
theorem Clone_any (s : ByteArray) (w : World) (hs : s.size ≤ 281474976710656) :
    Calls Tryz.prog 123 #[.string s] w fun e w' => e = .returned (.string s) ∧ Below w.heap.size w w' := by
  go_enter Tryz.func123, Tryz.ntmps123
  go_wp2_with (go_at_call 170; refine (Tryz.stringslite_Clone s _ (by omega)).mono ?_; rintro e w1 ⟨rfl, hb⟩)
  go_ret
  exact ⟨rfl, hb⟩

theorem S_size (l : List UInt8) : (S l).size = l.length := by simp [ByteArray.size]
theorem hd_le {l : List UInt8} (h : vld l = true) : (hd l).length ≤ 2000000 ∧ (tl l).length ≤ 2000000 := ⟨(vld_iff.1 (vld_hd h).1).1, (vld_iff.1 (vld_hd h).2).1⟩

set_option maxHeartbeats 400000 in
set_option maxRecDepth 100000 in
theorem Head_no (s : ByteArray) (w : World) (hs : s.size ≤ 281474976710656) (hv : vld s.data.toList = false) :
    Calls Tryz.prog 203 #[.string s] w fun e w' => e = .returned (.tuple #[.string (S []), .int .i64 1]) ∧ Below w.heap.size w w' := by
  have HV := Lib.hid hv; clear hv
  go_enter Tryz.func203, Tryz.ntmps203
  go_wp2_with (go_at_call 96; refine (Valid_is false s _ hs HV.out).mono ?_; rintro e w1 ⟨rfl, hb⟩)
  go_ret2
  exact ⟨rfl, hb⟩
set_option maxHeartbeats 400000 in
set_option maxRecDepth 100000 in
theorem Head_yes (s : ByteArray) (w : World) (hv : vld s.data.toList = true) :
    Calls Tryz.prog 203 #[.string s] w fun e w' => e = .returned (.tuple #[.string (S (hd s.data.toList)), .int .i64 0]) ∧ Below w.heap.size w w' := by
  have hs := vld_size hv
  have hz := (hd_le hv).1
  generalize hL : s.data.toList = L at *
  have HV := Lib.hid hv; clear hv
  have HL := Lib.hid hL; clear hL
  have hp := fun W : World => (parts_any s W (by rw [HL.out]; exact HV.out))
  rw [HL.out] at hp
  have HP := Lib.hid hp; clear hp
  generalize hd L = A at *
  generalize tl L = B at *
  go_enter Tryz.func203, Tryz.ntmps203
  go_wp2_with (first | (go_at_call 96; refine (Valid_is true s _ (by omega) (by rw [HL.out]; exact HV.out)).mono ?_; rintro e w1 ⟨rfl, hb1⟩) | (go_at_call 154; refine (HP.out _).mono ?_; rintro e w2 ⟨rfl, hb2⟩) | (go_at_call 123; refine (Clone_any _ _ (by rw [S_size]; omega)).mono ?_; rintro e w3 ⟨rfl, hb3⟩))
  go_ret2
  exact ⟨rfl, bstep (bstep hb1 hb2) hb3⟩
set_option maxHeartbeats 400000 in
set_option maxRecDepth 100000 in
theorem Tail_no (s : ByteArray) (w : World) (hs : s.size ≤ 281474976710656) (hv : vld s.data.toList = false) :
    Calls Tryz.prog 204 #[.string s] w fun e w' => e = .returned (.tuple #[.string (S []), .int .i64 1]) ∧ Below w.heap.size w w' := by
  have HV := Lib.hid hv; clear hv
  go_enter Tryz.func204, Tryz.ntmps204
  go_wp2_with (go_at_call 96; refine (Valid_is false s _ hs HV.out).mono ?_; rintro e w1 ⟨rfl, hb⟩)
  go_ret2
  exact ⟨rfl, hb⟩
set_option maxHeartbeats 400000 in
set_option maxRecDepth 100000 in
theorem Tail_yes (s : ByteArray) (w : World) (hv : vld s.data.toList = true) :
    Calls Tryz.prog 204 #[.string s] w fun e w' => e = .returned (.tuple #[  .string (S (tl s.data.toList)), .int .i64 0]) ∧ Below w.heap.size w w' := by
  have hs := vld_size hv
  have hz := (hd_le hv).2
  generalize hL : s.data.toList = L at *
  have HV := Lib.hid hv; clear hv
  have HL := Lib.hid hL; clear hL
  have hp := fun W : World => (parts_any s W (by rw [HL.out]; exact HV.out))
  rw [HL.out] at hp
  have HP := Lib.hid hp; clear hp
  generalize hd L = A at *
  generalize tl L = B at *
  go_enter Tryz.func204, Tryz.ntmps204
  go_wp2_with (first | (go_at_call 96; refine (Valid_is true s _ (by omega) (by rw [HL.out]; exact HV.out)).mono ?_; rintro e w1 ⟨rfl, hb1⟩) | (go_at_call 154; refine (HP.out _).mono ?_; rintro e w2 ⟨rfl, hb2⟩) | (go_at_call 123; refine (Clone_any _ _ (by rw [S_size]; omega)).mono ?_; rintro e w3 ⟨rfl, hb3⟩))
  go_ret2
  exact ⟨rfl, bstep (bstep hb1 hb2) hb3⟩

theorem contains_cons (b : UInt8) (l sub : List UInt8) : Lib.contains (b :: l) sub = (sub.isPrefixOf (b :: l) || Lib.contains l sub) := by
  have hg := Lib.index_ge l sub
  unfold Lib.contains
  rw [Lib.index]
  cases hp : sub.isPrefixOf (b :: l) with
  | true => simp
  | false =>
    simp only [Bool.false_or]
    by_cases h : Lib.index l sub = -1
    · rw [h]; decide
    · rw [if_neg (by simp), if_neg (by simpa using h), decide_eq_decide]; omega
theorem ends_47 (n : Nat) : ∀ {l : List UInt8}, l.length ≤ n → fs l 1 = some l.length → Lib.contains l [49, 49] = !(alt l) := by
  induction n with
  | zero => intro l h1 h2; cases l with
    | nil => simp [fs] at h2
    | cons => simp at h1
  | succ n ih =>
    intro l h1 h2
    match l, h1, h2 with
    | [], _, h2 => simp [fs] at h2
    | [c], _, h2 => rw [contains_cons]; simp [alt, Lib.contains, Lib.index, List.isPrefixOf]
    | c :: d :: r, h1, h2 =>
      by_cases c0 : c = 48
      · subst c0; rw [fs_48, fs_zero] at h2; simp at h2
      · by_cases c1 : c = 49
        · subst c1
          by_cases d0 : d = 48
          · subst d0
            rw [fs_49, fs_48] at h2
            have h3 : fs r 1 = some r.length := by
              obtain ⟨x, hx, hx2⟩ := Option.map_eq_some_iff.1 h2
              obtain ⟨y, hy, hy2⟩ := Option.map_eq_some_iff.1 hx
              simp only [List.length_cons] at hx2
              rw [hy]; congr 1; omega
            rw [contains_cons, contains_cons, ih (by simp only [List.length_cons] at h1; omega) h3]
            simp [alt, List.isPrefixOf]
          · by_cases d1 : d = 49
            · subst d1; rw [contains_cons]; simp [alt, List.isPrefixOf]
            · rw [fs_49, fs_bad _ _ _ d0 d1] at h2; simp at h2
        · rw [fs_bad _ _ _ c0 c1] at h2; simp at h2

set_option maxHeartbeats 400000 in
set_option maxRecDepth 100000 in
theorem Value_no (s : ByteArray) (w : World) (hs : s.size ≤ 281474976710656) (hv : vld s.data.toList = false) :
    Calls Tryz.prog 205 #[.string s] w fun e w' => e = .returned (.tuple #[.int .i64 0, .int .i64 1]) ∧ Below w.heap.size w w' := by
  have HV := Lib.hid hv; clear hv
  go_enter Tryz.func205, Tryz.ntmps205
  go_wp2_with (go_at_call 96; refine (Valid_is false s _ hs HV.out).mono ?_; rintro e w1 ⟨rfl, hb⟩)
  go_ret2
  exact ⟨rfl, hb⟩
theorem Contains_is (s : ByteArray) (m : Int) (w : World) (hv : vld s.data.toList = true) (hm : w.cell? ⟨0, 0, none⟩ = some (.int .i64 m)) (b : Bool) (hb : alt s.data.toList = b) :
    Calls Tryz.prog 219 #[.string s, .string ⟨#[49, 49]⟩] w fun e w' => e = .returned (.bool (!b)) ∧ w' = w := by
  have hs := vld_size hv
  refine (Tryz.strings_Contains s ⟨#[49, 49]⟩ m w (by omega) hm).mono fun e w' ⟨h1, h2⟩ => ⟨?_, h2⟩
  rw [h1]
  show Ending.returned (.bool (Lib.contains s.data.toList [49, 49])) = _
  rw [ends_47 _ (Nat.le_refl _) (vld_iff.1 hv).2, hb]
theorem maxLen_cell {w : World} (h : w.ShapedOpen Tryz.prog) : ∃ m, w.cell? ⟨0, 0, none⟩ = some (.int .i64 m) :=
  cell_of_shapedOpen_int (zero := #[.int .i64 0]) (t := 3) h (of_decide_eq_true (by kernel_rfl)) (by kernel_rfl) rfl (by kernel_rfl) (by kernel_rfl) Tryz.underlying3
theorem cell_lt {w : World} {a : Addr} {v : Value} (h : w.cell? a = some v) : a.block < w.heap.size := by
  rcases Nat.lt_or_ge a.block w.heap.size with h1 | h1
  · exact h1
  · have : w.heap[a.block]? = none := by simp [h1]
    simp [World.cell?, this] at h
theorem cell_keep {w w1 : World} {a : Addr} {v : Value} (hb : Below w.heap.size w w1) (h : w.cell? a = some v) : w1.cell? a = some v := by
  rw [hb.cell (cell_lt h)]; exact h
set_option maxHeartbeats 400000 in
set_option maxRecDepth 100000 in
theorem Value_num (s : ByteArray) (m : Int) (w : World) (hv : vld s.data.toList = true) (hm : w.cell? ⟨0, 0, none⟩ = some (.int .i64 m)) (ha : alt s.data.toList = true) :
    Calls Tryz.prog 205 #[.string s] w fun e w' => e = .returned (.tuple #[.int .i64 (val s.data.toList), .int .i64 0]) ∧ Below w.heap.size w w' := by
  have hs := vld_size hv
  have hx : val s.data.toList = (s.size : Int) / 2 := by unfold val; rw [ha, if_pos rfl, len_eq]; omega
  have HX := Lib.hid hx; clear hx
  have HV := Lib.hid hv; clear hv
  have HA := Lib.hid ha; clear ha
  have HM := Lib.hid hm; clear hm
  go_enter Tryz.func205, Tryz.ntmps205
  go_wp2_with (first | (go_at_call 96; refine (Valid_is true s _ (by omega) HV.out).mono ?_; rintro e w1 ⟨rfl, hb1⟩) | (go_at_call 219; refine (Contains_is s m _ HV.out (cell_keep hb1 HM.out) true HA.out).mono ?_; rintro e w2 ⟨rfl, rfl⟩))
  go_ret2
  exact ⟨by rw [HX.out]; rfl, hb1⟩
set_option maxHeartbeats 400000 in
set_option maxRecDepth 100000 in
theorem Value_none (s : ByteArray) (m : Int) (w : World) (hv : vld s.data.toList = true) (hm : w.cell? ⟨0, 0, none⟩ = some (.int .i64 m)) (ha : alt s.data.toList = false) :
    Calls Tryz.prog 205 #[.string s] w fun e w' => e = .returned (.tuple #[.int .i64 0, .int .i64 4]) ∧ Below w.heap.size w w' := by
  have hs := vld_size hv
  have HV := Lib.hid hv; clear hv
  have HA := Lib.hid ha; clear ha
  have HM := Lib.hid hm; clear hm
  go_enter Tryz.func205, Tryz.ntmps205
  go_wp2_with (first | (go_at_call 96; refine (Valid_is true s _ (by omega) HV.out).mono ?_; rintro e w1 ⟨rfl, hb1⟩) | (go_at_call 219; refine (Contains_is s m _ HV.out (cell_keep hb1 HM.out) false HA.out).mono ?_; rintro e w2 ⟨rfl, rfl⟩))
  go_ret2
  exact ⟨rfl, hb1⟩

set_option maxHeartbeats 400000 in
set_option maxRecDepth 100000 in
theorem Cons_form (a b : ByteArray) (w : World) (ha : a.size ≤ 281474976710656) (hb : b.size ≤ 281474976710656) (h : (vld a.data.toList && vld b.data.toList) = false) :
    Calls Tryz.prog 201 #[.string a, .string b] w fun e w' => e = .returned (.tuple #[.string (S []), .int .i64 1]) ∧ Below w.heap.size w w' := by
  by_cases h1 : vld a.data.toList = true
  · have h2 : vld b.data.toList = false := by rw [h1, Bool.true_and] at h; exact h
    have H1 := Lib.hid h1; have H2 := Lib.hid h2; clear h1 h2 h
    go_enter Tryz.func201, Tryz.ntmps201
    go_wp2_with fail
    refine (Valid_is true a _ ha H1.out).mono ?_
    rintro e w1 ⟨rfl, hb1⟩
    go_wp2_with fail
    refine (Valid_is false b _ hb H2.out).mono ?_
    rintro e w2 ⟨rfl, hb2⟩
    go_wp2_with fail
    go_ret2
    exact ⟨rfl, bstep hb1 hb2⟩
  · have h1 : vld a.data.toList = false := by simpa using h1
    have H1 := Lib.hid h1; clear h1 h
    go_enter Tryz.func201, Tryz.ntmps201
    go_wp2_with fail
    refine (Valid_is false a _ ha H1.out).mono ?_
    rintro e w1 ⟨rfl, hb1⟩
    go_wp2_with fail
    go_ret2
    exact ⟨rfl, hb1⟩
set_option maxHeartbeats 400000 in
set_option maxRecDepth 100000 in
theorem Cons_size (a b : ByteArray) (w : World) (h1 : vld a.data.toList = true) (h2 : vld b.data.toList = true) (hz : 2000000 < 1 + a.size + b.size) :
    Calls Tryz.prog 201 #[.string a, .string b] w fun e w' => e = .returned (.tuple #[.string (S []), .int .i64 3]) ∧ Below w.heap.size w w' := by
  have ha := vld_size h1
  have hb := vld_size h2
  have H1 := Lib.hid h1; have H2 := Lib.hid h2; clear h1 h2
  go_enter Tryz.func201, Tryz.ntmps201
  go_wp2_with fail
  refine (Valid_is true a _ (by omega) H1.out).mono ?_
  rintro e w1 ⟨rfl, hb1⟩
  go_wp2_with fail
  refine (Valid_is true b _ (by omega) H2.out).mono ?_
  rintro e w2 ⟨rfl, hb2⟩
  go_wp2_with fail
  go_ret2
  exact ⟨rfl, bstep hb1 hb2⟩
set_option maxHeartbeats 400000 in
set_option maxRecDepth 100000 in
theorem Cons_yes (a b : ByteArray) (w : World) (h1 : vld a.data.toList = true) (h2 : vld b.data.toList = true) (hz : 1 + a.size + b.size ≤ 2000000) :
    Calls Tryz.prog 201 #[.string a, .string b] w fun e w' => e = .returned (.tuple #[.string (S (49 :: (a.data.toList ++ b.data.toList))), .int .i64 0]) ∧ Below w.heap.size w w' := by
  have ha := vld_size h1
  have hb := vld_size h2
  have H1 := Lib.hid h1; have H2 := Lib.hid h2; clear h1 h2
  go_enter Tryz.func201, Tryz.ntmps201
  go_wp2_with fail
  refine (Valid_is true a _ (by omega) H1.out).mono ?_
  rintro e w1 ⟨rfl, hb1⟩
  go_wp2_with fail
  refine (Valid_is true b _ (by omega) H2.out).mono ?_
  rintro e w2 ⟨rfl, hb2⟩
  go_wp2_with fail
  go_ret2
  exact ⟨rfl, bstep hb1 hb2⟩

set_option maxHeartbeats 400000 in
set_option maxRecDepth 100000 in
theorem rHead_yes (s : ByteArray) (w : World) (hv : vld s.data.toList = true) :
    Calls Tryz.prog 85 #[.string s] w fun e w' => e = .returned (.string (S (hd s.data.toList))) ∧ w = w' := by
  by_cases h0 : s.data.toList = [48]
  · obtain rfl : s = S [48] := S_inj h0
    go_enter Tryz.func85, Tryz.ntmps85
    go_wp2_with fail
    go_ret
    exact ⟨rfl, rfl⟩
  · obtain ⟨e, g1, _, _, _, g5, g6⟩ := vld_pair hv h0
    have hl := (vld_iff.1 hv).1
    rw [len_eq] at hl g5
    have hE : endAt s.data.toList 1 = 1 + (e : Int) := by unfold endAt; rw [g1]; rfl
    have hh : hd s.data.toList = ((s.extract 1 (1 + e)).data.toList) := by
      unfold hd; rw [if_neg h0, sz_some g1, ex_list, List.drop_take]; simp
    have H1 := Lib.hid hh; clear hh
    have hne := ne_str h0
    have hc := fun W : World => End_any s 1 W (by omega) (by omega)
    rw [hE] at hc
    have HC := Lib.hid hc; clear hc h0 hv g1 hE
    have b1 : (1 : Int) + e ≤ s.size := by omega
    have b2 : (0 : Int) ≤ 1 + e := by omega
    have b3 : ((1 : Int) + e).toNat = 1 + e := by omega
    go_enter Tryz.func85, Tryz.ntmps85
    go_wp2_with (go_at_call 78; refine (HC.out _).mono ?_; rintro x w1 ⟨rfl, rfl⟩)
    go_ret
    exact ⟨ret_str (S_inj H1.out.symm), rfl⟩
set_option maxHeartbeats 400000 in
set_option maxRecDepth 100000 in
theorem rTail_yes (s : ByteArray) (w : World) (hv : vld s.data.toList = true) :
    Calls Tryz.prog 83 #[.string s] w fun e w' => e = .returned (.string (S (tl s.data.toList))) ∧ w = w' := by
  by_cases h0 : s.data.toList = [48]
  · obtain rfl : s = S [48] := S_inj h0
    go_enter Tryz.func83, Tryz.ntmps83
    go_wp2_with fail
    go_ret
    exact ⟨rfl, rfl⟩
  · obtain ⟨e, g1, _, _, _, g5, g6⟩ := vld_pair hv h0
    have hl := (vld_iff.1 hv).1
    rw [len_eq] at hl g5
    have hE : endAt s.data.toList 1 = 1 + (e : Int) := by unfold endAt; rw [g1]; rfl
    have ht : tl s.data.toList = ((s.extract (1 + e) s.size).data.toList) := by
      unfold tl; rw [if_neg h0, sz_some g1, ex_end, List.drop_drop]; simp
    have H1 := Lib.hid ht; clear ht
    have hne := ne_str h0
    have hc := fun W : World => End_any s 1 W (by omega) (by omega)
    rw [hE] at hc
    have HC := Lib.hid hc; clear hc h0 hv g1 hE
    have b1 : (1 : Int) + e ≤ s.size := by omega
    have b2 : (0 : Int) ≤ 1 + e := by omega
    have b3 : ((1 : Int) + e).toNat = 1 + e := by omega
    go_enter Tryz.func83, Tryz.ntmps83
    go_wp2_with (go_at_call 78; refine (HC.out _).mono ?_; rintro x w1 ⟨rfl, rfl⟩)
    go_ret
    exact ⟨ret_str (S_inj H1.out.symm), rfl⟩

theorem take_snoc (s : ByteArray) (k : Nat) (h : k < s.size) : s.data.toList.take (k + 1) = s.data.toList.take k ++ [s[k]] := by
  rw [List.take_succ_eq_append_getElem (by simpa using h)]; rfl
theorem count_snoc (s : ByteArray) (k : Nat) (h : k < s.size) : ones (s.data.toList.take (k + 1)) = ones (s.data.toList.take k) + if s[k] = 49 then 1 else 0 := by
  unfold ones; rw [take_snoc s k h, List.count_append]; simp [List.count_cons, List.count_nil]
theorem count_le (l : List UInt8) (k : Nat) : ones (l.take k) ≤ k := Nat.le_trans List.count_le_length (by rw [List.length_take]; exact Nat.min_le_left _ _)
theorem alt_step (l : List UInt8) (k : Nat) (h : k + 1 < l.length) : alt (l.drop k) = ((l[k]'(by omega)) == 49 && l[k + 1] == 48 && alt (l.drop (k + 2))) := by
  rw [List.drop_eq_getElem_cons (by omega : k < l.length), List.drop_eq_getElem_cons h]; rfl
theorem alt_rest (l : List UInt8) (k : Nat) (h : l.length ≤ k + 1) : alt (l.drop k) = true := alt_short (by rw [List.length_drop]; omega)
theorem val_bad {l : List UInt8} (h : alt l = false) : val l = -1 := by unfold val; rw [h]; rfl
theorem val_good {l : List UInt8} (h : alt l = true) : val l = (l.length : Int) / 2 := by unfold val; rw [h, if_pos rfl]; omega
set_option maxHeartbeats 400000 in
set_option maxRecDepth 100000 in
theorem rValue_any (s : ByteArray) (w : World) (hs : s.size ≤ 281474976710656) :
    Calls Tryz.prog 84 #[.string s] w fun e w' => e = .returned (.int .i64 (val s.data.toList)) ∧ w = w' := by
  go_enter Tryz.func84, Tryz.ntmps84
  go_wp2
  go_loop [3] (fun i => ∃ k : Nat, k ≤ s.size + 1 ∧ i = .int .i64 k ∧ Hid (alt s.data.toList = alt (s.data.toList.drop k))) (fun i => s.size + 2 - (intOf i).toNat)
  case atStart => exact ⟨0, Nat.zero_le _, rfl, Lib.hid rfl⟩
  case round =>
    obtain ⟨k, hk, rfl, hA⟩ := hrel
    by_cases hlt : k + 1 < s.size
    · have H := Lib.hid (alt_step s.data.toList k (by rw [len_eq]; exact hlt))
      by_cases c : s[k] = 49
      · have C := Lib.hid c
        by_cases d : s[k + 1] = 48
        · have D := Lib.hid d
          go_wp2
          go_round
          case rel => exact ⟨k + 2, by omega, by go_num, Lib.hid (by rw [hA.out, H.out]; show (s[k] == 49 && s[k + 1] == 48 && _) = _; rw [C.out, D.out]; rfl)⟩
          case measure => simp [intOf]; omega
        · have D : Hid (val s.data.toList = -1) := Lib.hid (val_bad (by rw [hA.out, H.out]; show (s[k] == 49 && s[k + 1] == 48 && _) = _; rw [beq_eq_false_iff_ne.2 d]; simp))
          have n1 : ((s[k + 1].toNat : Int) != 48) = true := by rw [bne_iff_ne]; intro e; exact d (UInt8.toNat_inj.1 (by simpa using Int.ofNat.inj e))
          clear d
          go_wp2
          go_ret
          exact ⟨ret_int D.out.symm, rfl⟩
      · have D : Hid (val s.data.toList = -1) := Lib.hid (val_bad (by rw [hA.out, H.out]; show (s[k] == 49 && s[k + 1] == 48 && _) = _; rw [beq_eq_false_iff_ne.2 c]; simp))
        have n1 : ((s[k].toNat : Int) != 49) = true := by rw [bne_iff_ne]; intro e; exact c (UInt8.toNat_inj.1 (by simpa using Int.ofNat.inj e))
        clear c
        go_wp2
        go_ret
        exact ⟨ret_int D.out.symm, rfl⟩
    · have D : Hid (val s.data.toList = (s.size : Int) / 2) := Lib.hid (by rw [val_good (by rw [hA.out]; exact alt_rest _ _ (by rw [len_eq]; omega)), len_eq])
      go_wp2
      go_ret
      exact ⟨ret_int D.out.symm, rfl⟩
end Go.Proofs.YtmhoacnbmbhcjaaGreatDoor
