import Derived.Test.YtaeigacinefhnabDoorE0
import Derived.Lib.Bytealg
import Derived.Test.YtaeigacinefhnabDoorF2
import Derived.Test.YtaeigacinefhnabDoorShelf
import Derived.Test.YtaeigacinefhnabDoorW1
import Derived.Test.YtaeigacinefhnabDoorC2
import Derived.Laws.NewBlocks
import Derived.Laws.Rows
import Derived.RegionTactic
import Derived.Deep.RegionWith
import Derived.LoopTactic
import Derived.Laws.BitsAllLaws
import Derived.Test.YtaeigacinefhnabDoorA5
import Derived.Test.YtaeigacinefhnabDoorR4
import Derived.Test.YtaeigacinefhnabDoorK32
import Derived.Test.YtaeigacinefhnabDoorK64

-- Plain: where a string ends in a table.
namespace Go.Proofs.YtaeigacinefhnabDoor
/-- the string at off ends at j: there is the first byte 0 from off on -/
def StrAt (b : ByteArray) (off j : Nat) : Prop := off ≤ j ∧ j < b.size ∧ byt b j = 0 ∧ ∀ i, off ≤ i → i < j → byt b i ≠ 0
def NoStr (b : ByteArray) (off : Nat) : Prop := ∀ i, off ≤ i → i < b.size → byt b i ≠ 0
theorem str_or (b : ByteArray) (off : Nat) : (∃ j, StrAt b off j) ∨ NoStr b off := by
  suffices h : ∀ n, (∃ j, StrAt b off j) ∨ (∀ i, off ≤ i → i < off + n → i < b.size → byt b i ≠ 0) by
    rcases h (b.size) with h | h
    · exact Or.inl h
    · exact Or.inr fun i h1 h2 => h i h1 (by omega) h2
  intro n
  induction n with
  | zero => exact Or.inr fun i h1 h2 => by omega
  | succ n ih =>
    rcases ih with ih | ih
    · exact Or.inl ih
    · by_cases h1 : off + n < b.size
      · by_cases h0 : byt b (off + n) = 0
        · exact Or.inl ⟨off + n, by omega, h1, h0, fun i h2 h3 => ih i h2 h3 (by omega)⟩
        · refine Or.inr fun i h2 h3 h4 => ?_
          by_cases e : i = off + n
          · subst e; exact h0
          · exact ih i h2 (by omega) h4
      · exact Or.inr fun i h2 h3 h4 => ih i h2 (by omega) h4

theorem index_ok (c : UInt8) : ∀ (l : List UInt8) (k : Nat), l[k]? = some c → (∀ i, i < k → l[i]? ≠ some c) → Lib.indexByte l c = k
  | [], k, h, _ => by simp at h
  | b :: l, 0, h, _ => by
    have e : b = c := by simpa using h
    simp [Lib.indexByte, e]
  | b :: l, k + 1, h, hb => by
    have e : b ≠ c := by have := hb 0 (by omega); simpa using this
    have ih := index_ok c l k (by simpa using h) (fun i hi => by have := hb (i + 1) (by omega); simpa using this)
    have e2 : (b == c) = false := by simpa using e
    have e3 : ((k : Int) == -1) = false := by simp
    simp only [Lib.indexByte, e2, ih, e3, Bool.false_eq_true, if_false]
    omega
theorem index_none (c : UInt8) : ∀ (l : List UInt8), (∀ i : Nat, l[i]? ≠ some c) → Lib.indexByte l c = -1
  | [], _ => rfl
  | b :: l, hb => by
    have e : b ≠ c := by have := hb 0; simpa using this
    have ih := index_none c l (fun i => by have := hb (i + 1); simpa using this)
    have e2 : (b == c) = false := by simpa using e
    simp [Lib.indexByte, e2, ih]
theorem ext_get (b : ByteArray) (off i : Nat) : (b.extract off b.size).data.toList[i]? = b.data.toList[off + i]? := by
  rw [ext_toList, List.getElem?_drop, List.take_of_length_le (by simp)]
theorem byt_zero_iff (b : ByteArray) (i : Nat) (h : i < b.size) : b.data.toList[i]? = some 0 ↔ byt b i = 0 := by
  have hl : i < b.data.toList.length := by simpa using h
  unfold byt
  rw [List.getD_eq_getElem?_getD, List.getElem?_eq_getElem hl]
  simp only [Option.some.injEq, Option.getD_some]
  constructor
  · intro e; rw [e]; rfl
  · intro e; exact UInt8.toNat_inj.1 (by simpa using e)
theorem index_str (b : ByteArray) (off j : Nat) (h : StrAt b off j) : Lib.indexByte (b.extract off b.size).data.toList 0 = (j : Int) - off := by
  obtain ⟨h1, h2, h3, h4⟩ := h
  have := index_ok 0 (b.extract off b.size).data.toList (j - off) (by rw [ext_get, show off + (j - off) = j by omega]; exact (byt_zero_iff b j h2).2 h3)
    (fun i hi => by
      rw [ext_get]; intro e
      exact h4 (off + i) (by omega) (by omega) ((byt_zero_iff b _ (by omega)).1 e))
  rw [this]; omega
theorem index_no (b : ByteArray) (off : Nat) (h : NoStr b off) : Lib.indexByte (b.extract off b.size).data.toList 0 = -1 := by
  refine index_none 0 _ fun i => ?_
  rw [ext_get]; intro e
  have hl : b.data.toList.length = b.size := by simp
  have hi : off + i < b.size := by
    by_cases h : off + i < b.size
    · exact h
    · rw [List.getElem?_eq_none (by omega)] at e; cases e
  exact h (off + i) (by omega) hi ((byt_zero_iff b _ hi).1 e)
end Go.Proofs.YtaeigacinefhnabDoor

-- elf: the string at a place of a table: contracts.
namespace Go.Proofs.YtaeigacinefhnabDoor
open Go.ChangeShapes Go.WideShapes Go.ChangeAt Go.RowKit
set_option linter.unusedVariables false
set_option maxRecDepth 100000

theorem textAt_out (b : ByteArray) (off : Int) (w : World) (h : off < 0 ∨ (b.size : Int) ≤ off) (hm : b.size ≤ maxLen) :
    Calls Tryd.prog 92 #[.string b, .int .i64 off] w fun r w' => r = .panicked (gives 56) ∧ w' = w := by
  unfold maxLen at hm
  by_cases h1 : off < 0
  · have h2 : ¬ (0 ≤ off) := by omega
    go_enter Tryd.func92, Tryd.ntmps92
    go_wp2_with (first | (go_at_call 73; refine (require_no _ _ _ (by first | rfl | exact decide_eq_false (by omega))).mono ?_; rintro r w1 ⟨rfl, hw⟩; subst w1))
    exact ⟨rfl, rfl, rfl⟩
  · have h2 : 0 ≤ off := by omega
    have h3 : ¬ off < (b.size : Int) := by omega
    go_enter Tryd.func92, Tryd.ntmps92
    go_wp2_with (first | (go_at_call 73; refine (require_no _ _ _ (by first | rfl | exact decide_eq_false (by omega))).mono ?_; rintro r w1 ⟨rfl, hw⟩; subst w1))
    exact ⟨rfl, rfl, rfl⟩
theorem textAt_none (b : ByteArray) (off : Nat) (w : World) (h : off < b.size) (hn : NoStr b off) (hm : b.size ≤ maxLen) :
    Calls Tryd.prog 92 #[.string b, .int .i64 off] w fun r w' => r = .panicked (gives 56) ∧ w' = w := by
  unfold maxLen at hm
  have h2 : (0 : Int) ≤ (off : Int) := by omega
  have h3 : (off : Int) < (b.size : Int) := by omega
  have hI : Hid (∀ w, Calls Tryd.prog 98 #[.string (b.extract off b.size), .int .u8 0] w fun e w' => e = .returned (.int .i64 (-1)) ∧ w' = w) := fun w =>
    (Tryd.strings_IndexByte _ 0 w).mono fun e w' hh => by
      obtain ⟨rfl, h2⟩ := hh
      exact ⟨congrArg (fun x => Ending.returned (.int .i64 x)) (index_no b off hn), h2⟩
  go_enter Tryd.func92, Tryd.ntmps92
  go_wp2_with (first | (go_at_call 98; refine (hI.out _).mono ?_; rintro r w1 ⟨rfl, hw⟩; subst w1) | (go_at_call 73; refine (require_no _ _ _ (by first | (with_reducible rfl) | exact decide_eq_false (by omega))).mono ?_; rintro r w1 ⟨rfl, hw⟩; subst w1) | (go_at_call 73; refine (require_ok _ _ _ (by first | (with_reducible rfl) | exact decide_eq_true (by omega))).mono ?_; rintro r w1 ⟨rfl, hw⟩; subst w1))
  exact ⟨rfl, rfl, rfl⟩
theorem textAt_ok (b : ByteArray) (off j : Nat) (w : World) (h : StrAt b off j) (hm : b.size ≤ maxLen) :
    Calls Tryd.prog 92 #[.string b, .int .i64 off] w fun r w' => r = .returned (.string (b.extract off j)) ∧ w' = w := by
  unfold maxLen at hm
  have hI : Hid (∀ w, Calls Tryd.prog 98 #[.string (b.extract off b.size), .int .u8 0] w fun e w' => e = .returned (.int .i64 ((j : Int) - off)) ∧ w' = w) := fun w =>
    (Tryd.strings_IndexByte _ 0 w).mono fun e w' hh => by
      obtain ⟨rfl, h2⟩ := hh
      exact ⟨congrArg (fun x => Ending.returned (.int .i64 x)) (index_str b off j h), h2⟩
  obtain ⟨g1, g2, g3, g4⟩ := h
  clear g3 g4
  have h2 : (0 : Int) ≤ (off : Int) := by omega
  have h3 : (off : Int) < (b.size : Int) := by omega
  have hsl : ∀ (x : Int) (w : World), x = j → (Instr.slice 9 (.string b) (some (.int .i64 (off : Int))) (some (.int .i64 x)) none).run Tryd.prog w = .ok (.string (b.extract off j)) w := fun x w hx => by
    subst hx
    rw [run_slice_string w 9 b .i64 .i64 (off : Int) (j : Int) Tryd.underlying9 (by omega) (by omega) (by omega)]
    rfl
  have hs1 := fun w => hsl _ w (show (off : Int) + ((j : Int) - off) = j by omega)
  have hs2 := fun w => hsl j w rfl
  clear hsl
  go_enter Tryd.func92, Tryd.ntmps92
  go_wp2_with (first | (go_at_call 98; refine (hI.out _).mono ?_; rintro r w1 ⟨rfl, hw⟩; subst w1) | (go_at_call 73; refine (require_ok _ _ _ (by first | (with_reducible rfl) | exact decide_eq_true (by omega))).mono ?_; rintro r w1 ⟨rfl, hw⟩; subst w1))
  go_ret
  exact ⟨rfl, rfl⟩
end Go.Proofs.YtaeigacinefhnabDoor

-- elf.Content and elf.Str: contracts.
namespace Go.Proofs.YtaeigacinefhnabDoor
open Go.ChangeShapes Go.WideShapes Go.ChangeAt Go.RowKit
set_option linter.unusedVariables false
set_option maxRecDepth 100000
/-- a section's eight numbers -/
def sec (a b c d e f g h : Int) : Array Value := #[.int .i64 a, .int .i64 b, .int .u64 c, .int .i64 d, .int .i64 e, .int .u64 f, .int .u64 g, .int .u64 h]
theorem content_room (s : ByteArray) (a b c d e f g h : Int) (w : World) (hb : b = 8) :
    Calls Tryd.prog 81 #[.string s, .agg #[.int .i64 a, .int .i64 b, .int .u64 c, .int .i64 d, .int .i64 e, .int .u64 f, .int .u64 g, .int .u64 h]] w fun r w' => r = .returned (.string .empty) ∧ Below w.heap.size w w' := by
  subst hb
  go_enter Tryd.func81, Tryd.ntmps81
  go_wp2
  go_ret
  exact ⟨rfl, Below.alloc (Below.refl _ _) (Nat.le_refl _) _⟩
theorem content_ok (s : ByteArray) (a b c d e h : Int) (f g : Nat) (w : World) (hb : (b == 8) = false) (hp : f ≤ s.size) (hn : g ≤ s.size - f) (hm : s.size ≤ maxLen) :
    Calls Tryd.prog 81 #[.string s, .agg #[.int .i64 a, .int .i64 b, .int .u64 c, .int .i64 d, .int .i64 e, .int .u64 f, .int .u64 g, .int .u64 h]] w fun r w' => r = .returned (.string (s.extract f (f + g))) ∧ Below w.heap.size w w' := by
  have HP := Hid.mk' (fun w => piece_ok s f g w hp hn hm)
  clear hp hn hm
  go_enter Tryd.func81, Tryd.ntmps81
  go_wp2_with (go_at_call 78; refine (HP.out _).mono ?_; rintro r w1 ⟨rfl, hw⟩; subst w1)
  go_ret
  exact ⟨rfl, Below.alloc (Below.refl _ _) (Nat.le_refl _) _⟩
theorem content_no (s : ByteArray) (a b c d e h : Int) (f g : Nat) (w : World) (hb : (b == 8) = false) (hf : f < 18446744073709551616) (hg : g < 18446744073709551616) (hn : ¬ (f ≤ s.size ∧ g ≤ s.size - f)) (hm : s.size ≤ maxLen) :
    Calls Tryd.prog 81 #[.string s, .agg #[.int .i64 a, .int .i64 b, .int .u64 c, .int .i64 d, .int .i64 e, .int .u64 f, .int .u64 g, .int .u64 h]] w fun r w' => r = .panicked (gives 54) ∧ Below w.heap.size w w' := by
  have HP := Hid.mk' (fun w => piece_no s f g w hf hg hn hm)
  clear hf hg hn hm
  go_enter Tryd.func81, Tryd.ntmps81
  go_wp2_with (go_at_call 78; refine (HP.out _).mono ?_; rintro r w1 ⟨rfl, hw⟩; subst w1)
  exact ⟨rfl, rfl, Below.alloc (Below.refl _ _) (Nat.le_refl _) _⟩
theorem cell_kept {w w1 : World} {v : Value} {t : TypeId} (hb : Below (w.alloc (.cells #[v] t)).heap.size (w.alloc (.cells #[v] t)) w1) : w1.cell? ⟨w.heap.size, 0, none⟩ = some v := by
  rw [size_alloc] at hb
  rw [hb.cell (Nat.lt_succ_self _)]; exact cell_of_row _ _ 0 _ _ _ (heap_alloc_new w _)
theorem frozen_kept {w w1 : World} {v : Value} {t : TypeId} (hb : Below (w.alloc (.cells #[v] t)).heap.size (w.alloc (.cells #[v] t)) w1) : w1.frozen? ⟨w.heap.size, 0, none⟩ = false := by
  rw [size_alloc] at hb
  rw [hb.frozen (Nat.lt_succ_self _)]; exact frozen_of_row _ _ 0 _ _ (heap_alloc_new w _)
theorem below_kept {w w1 : World} {o : Obj} (hb : Below (w.alloc o).heap.size (w.alloc o) w1) : Below w.heap.size w w1 :=
  (Below.alloc (Below.refl _ _) (Nat.le_refl _) _).trans (hb.mono (by rw [size_alloc]; exact Nat.le_succ _))
theorem Str_ok (s : ByteArray) (off : Int) (v : ByteArray) (w : World)
    (hC : ∀ w : World, Calls Tryd.prog 92 #[.string s, .int .i64 off] w fun r w' => r = .returned (.string v) ∧ Below w.heap.size w w') :
    Calls Tryd.prog 89 #[.string s, .int .i64 off] w fun r w' => r = .returned (.tuple #[.string v, .int .i64 0]) ∧ Below w.heap.size w w' := by
  have hmf : ∀ (fn : Fn) (first cap : Array Value) (w : World), (Instr.makeFunc fn first cap).run Tryd.prog w = .ok (.func fn first cap) w := fun _ _ _ _ => rfl
  have HP := Hid.mk' hC
  clear hC
  go_enter_defers Tryd.func89, Tryd.ntmps89
  go_wp2_with (first | (go_at_call 92; refine (HP.out _).mono ?_; rintro r w1 ⟨rfl, hb⟩; have hc : w1.cell? ⟨w.heap.size, 0, none⟩ = some (.int .i64 0) := cell_kept hb; have hz : w1.frozen? ⟨w.heap.size, 0, none⟩ = false := frozen_kept hb))
  have hc2 : (w1.setCell ⟨w.heap.size, 0, none⟩ (.int .i64 0)).cell? ⟨w.heap.size, 0, none⟩ = some (.int .i64 0) := World.cell?_setCell_same _ _ _ hc
  have hz2 : (w1.setCell ⟨w.heap.size, 0, none⟩ (.int .i64 0)).frozen? ⟨w.heap.size, 0, none⟩ = false := (World.frozen?_setCell _ _ _ _).trans hz
  have hs : ((w1.setCell ⟨w.heap.size, 0, none⟩ (.int .i64 0)).setCell ⟨w.heap.size, 0, none⟩ (.int .i64 0)).cell? ⟨w.heap.size, 0, none⟩ = some (.int .i64 0) := World.cell?_setCell_same _ _ _ hc2
  have hB : Below w.heap.size w ((w1.setCell ⟨w.heap.size, 0, none⟩ (.int .i64 0)).setCell ⟨w.heap.size, 0, none⟩ (.int .i64 0)) := Below.setCell (Below.setCell (below_kept hb) (Nat.le_refl _) _) (Nat.le_refl _) _
  refine leaves_cons (f := 91) (args := #[.pointer (some ⟨w.heap.size, 0, none⟩)]) (by simp) (by simp [go_sem]) ?_
  refine (idle_Str ⟨w.heap.size, 0, none⟩ _ _ hc2 hz2).mono ?_
  rintro r u' w'' ⟨rfl, rfl, rfl⟩
  generalize ((w1.setCell ⟨w.heap.size, 0, none⟩ (.int .i64 0)).setCell ⟨w.heap.size, 0, none⟩ (.int .i64 0)) = wz at hs hB
  simp [Leaves, settle, results, Tryd.results89, go_sem, hs]
  exact hB
theorem Str_no (s : ByteArray) (off : Int) (e : Int) (w : World)
    (hC : ∀ w : World, Calls Tryd.prog 92 #[.string s, .int .i64 off] w fun r w' => r = .panicked (gives e) ∧ Below w.heap.size w w') :
    Calls Tryd.prog 89 #[.string s, .int .i64 off] w fun r w' => r = .returned (.tuple #[.string .empty, .int .i64 e]) ∧ Below w.heap.size w w' := by
  have hmf : ∀ (fn : Fn) (first cap : Array Value) (w : World), (Instr.makeFunc fn first cap).run Tryd.prog w = .ok (.func fn first cap) w := fun _ _ _ _ => rfl
  have HP := Hid.mk' hC
  clear hC
  go_enter_defers Tryd.func89, Tryd.ntmps89
  go_wp2_with (first | (go_at_call 92; refine (HP.out _).mono ?_; rintro r w1 ⟨rfl, hb⟩; have hc : w1.cell? ⟨w.heap.size, 0, none⟩ = some (.int .i64 0) := cell_kept hb; have hz : w1.frozen? ⟨w.heap.size, 0, none⟩ = false := frozen_kept hb))
  have hs : (w1.setCell ⟨w.heap.size, 0, none⟩ (.int .i64 e)).cell? ⟨w.heap.size, 0, none⟩ = some (.int .i64 e) := World.cell?_setCell_same _ _ _ hc
  have hB : Below w.heap.size w (w1.setCell ⟨w.heap.size, 0, none⟩ (.int .i64 e)) := Below.setCell (below_kept hb) (Nat.le_refl _) _
  refine leaves_cons (f := 91) (args := #[.pointer (some ⟨w.heap.size, 0, none⟩)]) (by simp) (by simp [go_sem]) ?_
  refine (catch_Str ⟨w.heap.size, 0, none⟩ _ _ _ hc hz).mono ?_
  rintro r u' w'' ⟨rfl, rfl, rfl⟩
  generalize (w1.setCell ⟨w.heap.size, 0, none⟩ (.int .i64 e)) = wz at hs hB
  simp [Leaves, settle, results, Tryd.results89, go_sem, hs]
  exact ⟨rfl, hB⟩
end Go.Proofs.YtaeigacinefhnabDoor

-- elf.Content: contracts.
namespace Go.Proofs.YtaeigacinefhnabDoor
open Go.ChangeShapes Go.WideShapes Go.ChangeAt Go.RowKit
set_option linter.unusedVariables false
set_option maxRecDepth 100000
theorem cell_kept2 {w w1 : World} {o : Obj} {v : Value} {t : TypeId} (hb : Below ((w.alloc o).alloc (.cells #[v] t)).heap.size ((w.alloc o).alloc (.cells #[v] t)) w1) : w1.cell? ⟨w.heap.size + 1, 0, none⟩ = some v := by
  have h := cell_kept hb; rw [size_alloc] at h; exact h
theorem frozen_kept2 {w w1 : World} {o : Obj} {v : Value} {t : TypeId} (hb : Below ((w.alloc o).alloc (.cells #[v] t)).heap.size ((w.alloc o).alloc (.cells #[v] t)) w1) : w1.frozen? ⟨w.heap.size + 1, 0, none⟩ = false := by
  have h := frozen_kept hb; rw [size_alloc] at h; exact h
theorem below_kept2 {w w1 : World} {o p : Obj} (hb : Below ((w.alloc o).alloc p).heap.size ((w.alloc o).alloc p) w1) : Below w.heap.size w w1 :=
  below_kept (below_kept hb)
theorem Content_ok (s : ByteArray) (a b c d e' f g h : Int) (v : ByteArray) (w : World)
    (hC : ∀ w : World, Calls Tryd.prog 81 #[.string s, .agg #[.int .i64 a, .int .i64 b, .int .u64 c, .int .i64 d, .int .i64 e', .int .u64 f, .int .u64 g, .int .u64 h]] w fun r w' => r = .returned (.string v) ∧ Below w.heap.size w w') :
    Calls Tryd.prog 58 #[.string s, .agg #[.int .i64 a, .int .i64 b, .int .u64 c, .int .i64 d, .int .i64 e', .int .u64 f, .int .u64 g, .int .u64 h]] w fun r w' => r = .returned (.tuple #[.string v, .int .i64 0]) ∧ Below w.heap.size w w' := by
  have hmf : ∀ (fn : Fn) (first cap : Array Value) (w : World), (Instr.makeFunc fn first cap).run Tryd.prog w = .ok (.func fn first cap) w := fun _ _ _ _ => rfl
  have HP := Hid.mk' hC
  clear hC
  go_enter_defers Tryd.func58, Tryd.ntmps58
  go_wp2_with (first | (go_at_call 81; refine (HP.out _).mono ?_; rintro r w1 ⟨rfl, hb⟩; have hc : w1.cell? ⟨w.heap.size + 1, 0, none⟩ = some (.int .i64 0) := cell_kept2 hb; have hz : w1.frozen? ⟨w.heap.size + 1, 0, none⟩ = false := frozen_kept2 hb))
  have hc2 : (w1.setCell ⟨w.heap.size + 1, 0, none⟩ (.int .i64 0)).cell? ⟨w.heap.size + 1, 0, none⟩ = some (.int .i64 0) := World.cell?_setCell_same _ _ _ hc
  have hz2 : (w1.setCell ⟨w.heap.size + 1, 0, none⟩ (.int .i64 0)).frozen? ⟨w.heap.size + 1, 0, none⟩ = false := (World.frozen?_setCell _ _ _ _).trans hz
  have hs : ((w1.setCell ⟨w.heap.size + 1, 0, none⟩ (.int .i64 0)).setCell ⟨w.heap.size + 1, 0, none⟩ (.int .i64 0)).cell? ⟨w.heap.size + 1, 0, none⟩ = some (.int .i64 0) := World.cell?_setCell_same _ _ _ hc2
  have hB : Below w.heap.size w ((w1.setCell ⟨w.heap.size + 1, 0, none⟩ (.int .i64 0)).setCell ⟨w.heap.size + 1, 0, none⟩ (.int .i64 0)) := Below.setCell (Below.setCell (below_kept2 hb) (Nat.le_succ _) _) (Nat.le_succ _) _
  refine leaves_cons (f := 80) (args := #[.pointer (some ⟨w.heap.size + 1, 0, none⟩)]) (by simp) (by simp [go_sem]) ?_
  refine (idle_Content ⟨w.heap.size + 1, 0, none⟩ _ _ hc2 hz2).mono ?_
  rintro r u' w'' ⟨rfl, rfl, rfl⟩
  generalize ((w1.setCell ⟨w.heap.size + 1, 0, none⟩ (.int .i64 0)).setCell ⟨w.heap.size + 1, 0, none⟩ (.int .i64 0)) = wz at hs hB
  simp [Leaves, settle, results, Tryd.results58, go_sem, hs]
  exact hB
theorem Content_no (s : ByteArray) (a b c d e' f g h : Int) (e : Int) (w : World)
    (hC : ∀ w : World, Calls Tryd.prog 81 #[.string s, .agg #[.int .i64 a, .int .i64 b, .int .u64 c, .int .i64 d, .int .i64 e', .int .u64 f, .int .u64 g, .int .u64 h]] w fun r w' => r = .panicked (gives e) ∧ Below w.heap.size w w') :
    Calls Tryd.prog 58 #[.string s, .agg #[.int .i64 a, .int .i64 b, .int .u64 c, .int .i64 d, .int .i64 e', .int .u64 f, .int .u64 g, .int .u64 h]] w fun r w' => r = .returned (.tuple #[.string .empty, .int .i64 e]) ∧ Below w.heap.size w w' := by
  have hmf : ∀ (fn : Fn) (first cap : Array Value) (w : World), (Instr.makeFunc fn first cap).run Tryd.prog w = .ok (.func fn first cap) w := fun _ _ _ _ => rfl
  have HP := Hid.mk' hC
  clear hC
  go_enter_defers Tryd.func58, Tryd.ntmps58
  go_wp2_with (first | (go_at_call 81; refine (HP.out _).mono ?_; rintro r w1 ⟨rfl, hb⟩; have hc : w1.cell? ⟨w.heap.size + 1, 0, none⟩ = some (.int .i64 0) := cell_kept2 hb; have hz : w1.frozen? ⟨w.heap.size + 1, 0, none⟩ = false := frozen_kept2 hb))
  have hs : (w1.setCell ⟨w.heap.size + 1, 0, none⟩ (.int .i64 e)).cell? ⟨w.heap.size + 1, 0, none⟩ = some (.int .i64 e) := World.cell?_setCell_same _ _ _ hc
  have hB : Below w.heap.size w (w1.setCell ⟨w.heap.size + 1, 0, none⟩ (.int .i64 e)) := Below.setCell (below_kept2 hb) (Nat.le_succ _) _
  refine leaves_cons (f := 80) (args := #[.pointer (some ⟨w.heap.size + 1, 0, none⟩)]) (by simp) (by simp [go_sem]) ?_
  refine (catch_Content ⟨w.heap.size + 1, 0, none⟩ _ _ _ hc hz).mono ?_
  rintro r u' w'' ⟨rfl, rfl, rfl⟩
  generalize (w1.setCell ⟨w.heap.size + 1, 0, none⟩ (.int .i64 e)) = wz at hs hB
  simp [Leaves, settle, results, Tryd.results58, go_sem, hs]
  exact ⟨rfl, hB⟩
end Go.Proofs.YtaeigacinefhnabDoor

-- The document's Content and Str: contracts.
namespace Go.Proofs.YtaeigacinefhnabDoor
open Go.ChangeShapes Go.WideShapes Go.ChangeAt Go.RowKit
set_option linter.unusedVariables false
set_option maxRecDepth 100000
theorem rContent_room (s : ByteArray) (a b c d e f g h : Int) (w : World) (hb : (b == 8) = true) :
    Calls Tryd.prog 68 #[.string s, .agg #[.int .i64 a, .int .i64 b, .int .u64 c, .int .i64 d, .int .i64 e, .int .u64 f, .int .u64 g, .int .u64 h]] w fun r w' => r = .returned (.tuple #[.string .empty, .int .i64 0]) ∧ Below w.heap.size w w' := by
  go_enter Tryd.func68, Tryd.ntmps68
  go_wp2
  go_ret2
  exact ⟨rfl, Below.alloc (Below.refl _ _) (Nat.le_refl _) _⟩
theorem within_ok (L p n : Nat) (w : World) (hp : p ≤ L) (hn : n ≤ L - p) (hm : L ≤ maxLen) :
    Calls Tryd.prog 62 #[.int .i64 L, .int .u64 p, .int .u64 n] w fun r w' => r = .returned (.bool true) ∧ w' = w := by
  unfold maxLen at hm
  have h1 : (p : Int) ≤ L := by omega
  have h2 : (n : Int) ≤ L - p := by omega
  go_enter Tryd.func62, Tryd.ntmps62
  go_wp2
  go_ret
  exact ⟨by simp, rfl⟩
theorem within_no (L p n : Nat) (w : World) (hp : p < 18446744073709551616) (hn : n < 18446744073709551616) (h : ¬ (p ≤ L ∧ n ≤ L - p)) (hm : L ≤ maxLen) :
    Calls Tryd.prog 62 #[.int .i64 L, .int .u64 p, .int .u64 n] w fun r w' => r = .returned (.bool false) ∧ w' = w := by
  unfold maxLen at hm
  by_cases h1 : p ≤ L
  · have h2 : L - p < n := by omega
    have h3 : ¬ (n : Int) ≤ L - p := by omega
    go_enter Tryd.func62, Tryd.ntmps62
    go_wp2
    go_ret
    exact ⟨rfl, rfl⟩
  · have h2 : L < p := by omega
    go_enter Tryd.func62, Tryd.ntmps62
    go_wp2
    go_ret
    exact ⟨rfl, rfl⟩
theorem rContent_no (s : ByteArray) (a b c d e h : Int) (f g : Nat) (w : World) (hb : (b == 8) = false) (hf : f < 18446744073709551616) (hg : g < 18446744073709551616) (hn : ¬ (f ≤ s.size ∧ g ≤ s.size - f)) (hm : s.size ≤ maxLen) :
    Calls Tryd.prog 68 #[.string s, .agg #[.int .i64 a, .int .i64 b, .int .u64 c, .int .i64 d, .int .i64 e, .int .u64 f, .int .u64 g, .int .u64 h]] w fun r w' => r = .returned (.tuple #[.string .empty, .int .i64 54]) ∧ Below w.heap.size w w' := by
  have HW := Hid.mk' (fun w => within_no s.size f g w hf hg hn hm)
  clear hf hg hn hm
  go_enter Tryd.func68, Tryd.ntmps68
  go_wp2_with (first | (go_at_call 62; refine (HW.out _).mono ?_; rintro r w1 ⟨rfl, hw⟩; subst w1))
  go_ret2
  exact ⟨rfl, Below.alloc (Below.refl _ _) (Nat.le_refl _) _⟩
theorem rContent_ok (s : ByteArray) (a b c d e h : Int) (f g : Nat) (w : World) (hb : (b == 8) = false) (hp : f ≤ s.size) (hn : g ≤ s.size - f) (hm : s.size ≤ maxLen) :
    Calls Tryd.prog 68 #[.string s, .agg #[.int .i64 a, .int .i64 b, .int .u64 c, .int .i64 d, .int .i64 e, .int .u64 f, .int .u64 g, .int .u64 h]] w fun r w' => r = .returned (.tuple #[.string (s.extract f (f + g)), .int .i64 0]) ∧ Below w.heap.size w w' := by
  have HW := Hid.mk' (fun w => within_ok s.size f g w hp hn hm)
  unfold maxLen at hm
  have hsl : ∀ w : World, (Instr.slice 9 (.string s) (some (.int .i64 (f : Int))) (some (.int .i64 ((f : Int) + (g : Int)))) none).run Tryd.prog w = .ok (.string (s.extract f (f + g))) w := fun w => by
    rw [run_slice_string w 9 s .i64 .i64 (f : Int) ((f : Int) + (g : Int)) Tryd.underlying9 (by omega) (by omega) (by omega)]
    rfl
  go_enter Tryd.func68, Tryd.ntmps68
  go_wp2_with (first | (go_at_call 62; refine (HW.out _).mono ?_; rintro r w1 ⟨rfl, hw⟩; subst w1))
  go_ret2
  exact ⟨rfl, Below.alloc (Below.refl _ _) (Nat.le_refl _) _⟩
theorem idxS (s : ByteArray) (k : Nat) (h : k < s.size) (w : World) : (Instr.index 9 (.string s) (.int .i64 (k : Int))).run Tryd.prog w = .ok (.int .u8 (byt s k)) w := by
  rw [run_index_string w 9 s .i64 k Tryd.underlying9, dif_pos (by omega)]
  have e : s[k].toNat = byt s k := byt_at s k h
  simp [← e]
theorem rStr_neg (s : ByteArray) (off : Int) (w : World) (h : off < 0) :
    Calls Tryd.prog 72 #[.string s, .int .i64 off] w fun r w' => r = .returned (.tuple #[.string .empty, .int .i64 56]) ∧ w' = w := by
  go_enter Tryd.func72, Tryd.ntmps72
  go_wp2
  go_ret2
  exact ⟨rfl, rfl⟩
theorem rStr_none (s : ByteArray) (off : Nat) (w : World) (hn : NoStr s off) (ho : (off : Int) ≤ 9223372036854775807) (hm : s.size ≤ maxLen) :
    Calls Tryd.prog 72 #[.string s, .int .i64 off] w fun r w' => r = .returned (.tuple #[.string .empty, .int .i64 56]) ∧ w' = w := by
  unfold maxLen at hm
  have h0 : ¬ (off : Int) < 0 := by omega
  have HN := Hid.mk' hn
  clear hn
  go_enter Tryd.func72, Tryd.ntmps72
  go_wp2
  go_loopw [6] (fun i wx => ∃ k : Nat, off ≤ k ∧ (k : Int) ≤ 9223372036854775807 ∧ i = .int .i64 k ∧ wx = w) (fun i _ => s.size - (intOf i).toNat)
  case atStart => exact ⟨off, Nat.le_refl _, ho, rfl, rfl⟩
  case round =>
    obtain ⟨k, hk, hk2, rfl, rfl⟩ := hrel
    by_cases hlt : k < s.size
    · have hidx := idxS s k hlt
      have hne : ((byt s k : Int) == 0) = false := beq_eq_false_iff_ne.2 (by have := HN.out k hk hlt; omega)
      go_wp2
      go_roundw
      case rel => exact ⟨k + 1, by omega, by omega, by go_num, trivial⟩
      case measure => simp [intOf]; omega
    · have hge : ¬ (k : Int) < (s.size : Int) := by omega
      go_wp2
      go_ret2
      exact ⟨rfl, rfl⟩
theorem rStr_ok (s : ByteArray) (off j : Nat) (w : World) (h : StrAt s off j) (hm : s.size ≤ maxLen) :
    Calls Tryd.prog 72 #[.string s, .int .i64 off] w fun r w' => r = .returned (.tuple #[.string (s.extract off j), .int .i64 0]) ∧ w' = w := by
  obtain ⟨g1, g2, g3, g4⟩ := h
  unfold maxLen at hm
  have h0 : ¬ (off : Int) < 0 := by omega
  have HN := Hid.mk' g4
  have hsl : ∀ w : World, (Instr.slice 9 (.string s) (some (.int .i64 (off : Int))) (some (.int .i64 (j : Int))) none).run Tryd.prog w = .ok (.string (s.extract off j)) w := fun w => by
    rw [run_slice_string w 9 s .i64 .i64 (off : Int) (j : Int) Tryd.underlying9 (by omega) (by omega) (by omega)]
    rfl
  have HZ := Hid.mk' g3
  clear g4 g3
  go_enter Tryd.func72, Tryd.ntmps72
  go_wp2
  go_loopw [6] (fun i wx => ∃ k : Nat, off ≤ k ∧ k ≤ j ∧ i = .int .i64 k ∧ wx = w) (fun i _ => s.size - (intOf i).toNat)
  case atStart => exact ⟨off, Nat.le_refl _, g1, rfl, rfl⟩
  case round =>
    obtain ⟨k, hk, hk2, rfl, rfl⟩ := hrel
    have hidx := idxS s k (by omega)
    by_cases hlt : k < j
    · have hne : ((byt s k : Int) == 0) = false := beq_eq_false_iff_ne.2 (by have := HN.out k hk hlt; omega)
      go_wp2
      go_roundw
      case rel => exact ⟨k + 1, by omega, by omega, by go_num, trivial⟩
      case measure => simp [intOf]; omega
    · obtain rfl : k = j := by omega
      have hidx0 : ∀ w : World, (Instr.index 9 (.string s) (.int .i64 (k : Int))).run Tryd.prog w = .ok (.int .u8 0) w := fun w => by have h := hidx w; rw [HZ.out] at h; exact h
      clear hidx
      go_wp2
      go_ret2
      exact ⟨rfl, rfl⟩
end Go.Proofs.YtaeigacinefhnabDoor

-- A section's numbers, and lists of sections in memory.
namespace Go.Proofs.YtaeigacinefhnabDoor
open Go.ChangeShapes Go.WideShapes Go.ChangeAt Go.RowKit
set_option linter.unusedVariables false
set_option maxRecDepth 100000
/-- a section's numbers -/
structure Sec where
  nm : Nat
  ty : Nat
  fl : Nat
  li : Nat
  inf : Nat
  off : Nat
  sz : Nat
  en : Nat
def Sec.v (s : Sec) : Array Value := #[.int .i64 s.nm, .int .i64 s.ty, .int .u64 s.fl, .int .i64 s.li, .int .i64 s.inf, .int .u64 s.off, .int .u64 s.sz, .int .u64 s.en]
theorem Sec.one (s : Sec) : s.v.all (·.oneCell') = true := by kernel_rfl
/-- the section whose entry stands at p -/
def secOf (b : ByteArray) (c : Nat) (o : Int) (p : Nat) : Sec :=
  if c = 32 then ⟨num b p 4 o, num b (p + 4) 4 o, num b (p + 8) 4 o, num b (p + 24) 4 o, num b (p + 28) 4 o, num b (p + 16) 4 o, num b (p + 20) 4 o, num b (p + 36) 4 o⟩
  else ⟨num b p 4 o, num b (p + 4) 4 o, num b (p + 8) 8 o, num b (p + 40) 4 o, num b (p + 44) 4 o, num b (p + 24) 8 o, num b (p + 32) 8 o, num b (p + 56) 8 o⟩
theorem sec32 (b : ByteArray) (o : Int) (p : Nat) : secOf b 32 o p = ⟨num b p 4 o, num b (p + 4) 4 o, num b (p + 8) 4 o, num b (p + 24) 4 o, num b (p + 28) 4 o, num b (p + 16) 4 o, num b (p + 20) 4 o, num b (p + 36) 4 o⟩ := if_pos rfl
theorem sec64 (b : ByteArray) (o : Int) (p : Nat) : secOf b 64 o p = ⟨num b p 4 o, num b (p + 4) 4 o, num b (p + 8) 8 o, num b (p + 40) 4 o, num b (p + 44) 4 o, num b (p + 24) 8 o, num b (p + 32) 8 o, num b (p + 56) 8 o⟩ := if_neg (by decide)
/-- a list of sections in memory, in a block not below B -/
def SecsIn (B : Nat) (w : World) (v : Value) (n : Nat) (s : Nat → Sec) : Prop :=
  ∃ ao c, v = .slice ao n c ∧ (0 < n → ∃ g cur, ao = some ⟨g, 0, none⟩ ∧ B ≤ g ∧ w.heap[g]? = some (.cells cur 77 (0, 0)) ∧ ∀ i m, i < n → m < 8 → cur[i * 8 + m]? = (s i).v[m]?)
theorem flat_get (s : Nat → Sec) : ∀ (n i m : Nat), i < n → m < 8 → (flat (fun i => (s i).v) n)[i * 8 + m]? = (s i).v[m]?
  | 0, i, m, h, _ => by omega
  | n + 1, i, m, h, hm => by
    have hl : (flat (fun i => (s i).v) n).length = n * 8 := flat_length _ (fun i => rfl) n
    rw [flat]
    rcases Nat.lt_or_ge i n with hi | hi
    · rw [List.getElem?_append_left (by rw [hl]; omega)]
      exact flat_get s n i m hi hm
    · obtain rfl : i = n := by omega
      rw [List.getElem?_append_right (by rw [hl]; omega), hl, show i * 8 + m - i * 8 = m by omega, Array.getElem?_toList]
theorem secsIn_row {B : Nat} {w : World} {g n c : Nat} {s : Nat → Sec} (hg : B ≤ g) (h : w.heap[g]? = some (.cells (flat (fun i => (s i).v) n).toArray 77 (0, 0))) : SecsIn B w (.slice (some ⟨g, 0, none⟩) n c) n s :=
  ⟨_, _, rfl, fun _ => ⟨g, _, rfl, hg, h, fun i m hi hm => by rw [List.getElem?_toArray]; exact flat_get s n i m hi hm⟩⟩
theorem secsIn_own {B : Nat} {w : World} {v : Value} {n : Nat} {s : Nat → Sec} (h : w.ownsRow B 77 8 v n (flat (fun i => (s i).v) n)) : SecsIn B w v n s := by
  have hl : (flat (fun i => (s i).v) n).length = n * 8 := flat_length _ (fun i => rfl) n
  rcases h.2 with ⟨hv, hn⟩ | ⟨g, cap, cur, hv, hb, hg, h1, h2, h3, h4⟩
  · subst hn
    exact ⟨none, 0, hv, fun h => absurd h (Nat.lt_irrefl _)⟩
  · refine ⟨_, _, hv, fun _ => ⟨g, cur, rfl, hb, hg, fun i m hi hm => ?_⟩⟩
    rw [← flat_get s n i m hi hm, ← h4, List.getElem?_take, if_pos (by omega), Array.getElem?_toList]
theorem SecsIn.kept {B : Nat} {w w' : World} {v : Value} {n : Nat} {s : Nat → Sec} (h : SecsIn B w v n s) (hb : Below w.heap.size w w') : SecsIn B w' v n s := by
  obtain ⟨ao, c, hv, hr⟩ := h
  refine ⟨ao, c, hv, fun hn => ?_⟩
  obtain ⟨g, cur, h1, h2, h3, h4⟩ := hr hn
  exact ⟨g, cur, h1, h2, (hb.block g (Array.getElem?_eq_some_iff.1 h3).1).trans h3, h4⟩
theorem num_two (b : ByteArray) (so q p L a K : Nat) (o : Int) (h1 : a + K ≤ L) (h2 : so + p + L ≤ q) : num ((b.extract so q).extract p (p + L)) a K o = num b (so + p + a) K o := by
  rw [num_ext _ p (p + L) a K o (by omega), num_ext b so q (p + a) K o (by omega), Nat.add_assoc]
end Go.Proofs.YtaeigacinefhnabDoor

-- elf: an entry of the table, identify, by class.
namespace Go.Proofs.YtaeigacinefhnabDoor
open Go.ChangeShapes Go.WideShapes Go.ChangeAt Go.RowKit
set_option linter.unusedVariables false
set_option maxRecDepth 100000
/-- what a call of Sections answers -/
def PSecs (b : ByteArray) (n : Nat) (s : Nat → Sec) (e : Int) : Prop := ∀ w : World, Magic w → Calls Tryd.prog 34 #[.string b] w fun r w' => ∃ v, r = .returned (.tuple #[v, .int .i64 e]) ∧ SecsIn w.heap.size w' v n s ∧ Below w.heap.size w w'
def DSecs (b : ByteArray) (n : Nat) (s : Nat → Sec) (e : Int) : Prop := ∀ w : World, Calls Tryd.prog 45 #[.string b] w fun r w' => ∃ v, r = .returned (.tuple #[v, .int .i64 e]) ∧ SecsIn w.heap.size w' v n s ∧ Below w.heap.size w w'
/-- places and lengths of sections are numbers of eight bytes -/
def SecB (s : Nat → Sec) : Prop := ∀ i, (s i).off < 18446744073709551616 ∧ (s i).sz < 18446744073709551616
theorem sec_b (b : ByteArray) (c : Nat) (o : Int) (p : Nat) : (secOf b c o p).off < 18446744073709551616 ∧ (secOf b c o p).sz < 18446744073709551616 := by
  unfold secOf
  split
  · exact ⟨Nat.lt_trans (num_lt4 b _ _) (by decide), Nat.lt_trans (num_lt4 b _ _) (by decide)⟩
  · exact ⟨num_lt8 b _ _, num_lt8 b _ _⟩
theorem secsIn_nil (B : Nat) (w : World) (s : Nat → Sec) (ao : Option Addr) (c : Nat) : SecsIn B w (.slice ao 0 c) 0 s := ⟨ao, c, rfl, fun h => absurd h (Nat.lt_irrefl _)⟩
theorem at_32 (b : ByteArray) (so n i k : Nat) (nm o : Int) (w : World) (hb : b.size ≤ maxLen) (hin : so ≤ b.size ∧ n * 40 ≤ b.size - so) (ho : o = 0 ∨ o = 1) (hi : i < n) (hF : w.heap[k]? = some (.cells (fileCells 32 o b) 107 (0, 0))) :
    Calls Tryd.prog 79 #[.agg #[.pointer (some ⟨k, 0, none⟩), .string (b.extract so (so + n * 40)), .int .i64 n, .int .i64 nm], .int .i64 i] w fun r w' => r = .returned (.agg (secOf b 32 o (so + i * 40)).v) ∧ Below w.heap.size w w' := by
  have hsz : (b.extract so (so + n * 40)).size = n * 40 := by rw [ByteArray.size_extract]; omega
  have hle : i * 40 + 40 ≤ n * 40 := by omega
  have hq : so + i * 40 + 40 ≤ so + n * 40 := by omega
  rw [sec32]
  refine at_ok (b.extract so (so + n * 40)) k n i 40 nm _ _ _ _ _ _ _ _ _ w hF rfl (by omega) hi (by unfold maxLen at *; omega) (by rw [hsz]; exact Nat.le_refl _) (by rw [hsz]; omega) (fun w' hF' => ?_)
  have hs2 : ((b.extract so (so + n * 40)).extract (i * 40) (i * 40 + 40)).size = 40 := by rw [ByteArray.size_extract, hsz]; omega
  refine (section_32 b _ k o w' hF' hs2 ho).mono fun r w'' ⟨h1, h2⟩ => ⟨?_, h2⟩
  have hv : r = .returned (.agg (Sec.v ⟨num b (so + i * 40) 4 o, num b (so + i * 40 + 4) 4 o, num b (so + i * 40 + 8) 4 o, num b (so + i * 40 + 24) 4 o, num b (so + i * 40 + 28) 4 o, num b (so + i * 40 + 16) 4 o, num b (so + i * 40 + 20) 4 o, num b (so + i * 40 + 36) 4 o⟩)) := by
    have e0 : numI ((b.extract so (so + n * 40)).extract (i * 40) (i * 40 + 40)) 0 4 o = ((num b (so + i * 40 + 0) 4 o : Nat) : Int) := congrArg (Nat.cast : Nat → Int) (num_two b so (so + n * 40) (i * 40) 40 0 4 o (by omega) hq)
    have e1 : numI ((b.extract so (so + n * 40)).extract (i * 40) (i * 40 + 40)) 4 4 o = ((num b (so + i * 40 + 4) 4 o : Nat) : Int) := congrArg (Nat.cast : Nat → Int) (num_two b so (so + n * 40) (i * 40) 40 4 4 o (by omega) hq)
    have e2 : numI ((b.extract so (so + n * 40)).extract (i * 40) (i * 40 + 40)) 8 4 o = ((num b (so + i * 40 + 8) 4 o : Nat) : Int) := congrArg (Nat.cast : Nat → Int) (num_two b so (so + n * 40) (i * 40) 40 8 4 o (by omega) hq)
    have e3 : numI ((b.extract so (so + n * 40)).extract (i * 40) (i * 40 + 40)) 24 4 o = ((num b (so + i * 40 + 24) 4 o : Nat) : Int) := congrArg (Nat.cast : Nat → Int) (num_two b so (so + n * 40) (i * 40) 40 24 4 o (by omega) hq)
    have e4 : numI ((b.extract so (so + n * 40)).extract (i * 40) (i * 40 + 40)) 28 4 o = ((num b (so + i * 40 + 28) 4 o : Nat) : Int) := congrArg (Nat.cast : Nat → Int) (num_two b so (so + n * 40) (i * 40) 40 28 4 o (by omega) hq)
    have e5 : numI ((b.extract so (so + n * 40)).extract (i * 40) (i * 40 + 40)) 16 4 o = ((num b (so + i * 40 + 16) 4 o : Nat) : Int) := congrArg (Nat.cast : Nat → Int) (num_two b so (so + n * 40) (i * 40) 40 16 4 o (by omega) hq)
    have e6 : numI ((b.extract so (so + n * 40)).extract (i * 40) (i * 40 + 40)) 20 4 o = ((num b (so + i * 40 + 20) 4 o : Nat) : Int) := congrArg (Nat.cast : Nat → Int) (num_two b so (so + n * 40) (i * 40) 40 20 4 o (by omega) hq)
    have e7 : numI ((b.extract so (so + n * 40)).extract (i * 40) (i * 40 + 40)) 36 4 o = ((num b (so + i * 40 + 36) 4 o : Nat) : Int) := congrArg (Nat.cast : Nat → Int) (num_two b so (so + n * 40) (i * 40) 40 36 4 o (by omega) hq)
    rw [h1, e0, e1, e2, e3, e4, e5, e6, e7]
    rfl
  exact hv
theorem id_32 (b : ByteArray) (hm : b.size ≤ maxLen) (hE : identE b = 0) (hc : cls b = 32) : ∀ w : World, Magic w → Calls Tryd.prog 54 #[.string b] w fun r w' => ∃ k, r = .returned (.pointer (some ⟨k, 0, none⟩)) ∧ Below w.heap.size w w' ∧ w'.heap[k]? = some (.cells (fileCells 32 (ord b) b) 107 (0, 0)) :=
  fun w hM => (identify_c b w hM hm).mono fun r w' ⟨h1, h2⟩ => by
    rcases h2 with ⟨_, k, h3, _, h4⟩ | ⟨h3, _⟩
    · refine ⟨k, h3, h1, ?_⟩
      unfold FileAt at h4
      rw [hc] at h4
      exact h4
    · exact absurd hE h3
theorem rent_32 (b : ByteArray) (p : Nat) (o e2 e3 e4 e5 e6 e7 : Int) (w : World) (hs : p + 40 ≤ b.size) (hm : b.size ≤ maxLen) (ho : o = 0 ∨ o = 1) :
    Calls Tryd.prog 63 #[.string b, .int .i64 p, .agg #[.int .i64 32, .int .i64 o, .int .i64 e2, .int .i64 e3, .int .u64 e4, .int .i64 e5, .int .i64 e6, .int .i64 e7]] w fun r w' => r = .returned (.agg (secOf b 32 o p).v) ∧ Below w.heap.size w w' := by
  rw [sec32]
  exact rEntry_32 b p o e2 e3 e4 e5 e6 e7 w hs hm ho
theorem at_64 (b : ByteArray) (so n i k : Nat) (nm o : Int) (w : World) (hb : b.size ≤ maxLen) (hin : so ≤ b.size ∧ n * 64 ≤ b.size - so) (ho : o = 0 ∨ o = 1) (hi : i < n) (hF : w.heap[k]? = some (.cells (fileCells 64 o b) 107 (0, 0))) :
    Calls Tryd.prog 79 #[.agg #[.pointer (some ⟨k, 0, none⟩), .string (b.extract so (so + n * 64)), .int .i64 n, .int .i64 nm], .int .i64 i] w fun r w' => r = .returned (.agg (secOf b 64 o (so + i * 64)).v) ∧ Below w.heap.size w w' := by
  have hsz : (b.extract so (so + n * 64)).size = n * 64 := by rw [ByteArray.size_extract]; omega
  have hle : i * 64 + 64 ≤ n * 64 := by omega
  have hq : so + i * 64 + 64 ≤ so + n * 64 := by omega
  rw [sec64]
  refine at_ok (b.extract so (so + n * 64)) k n i 64 nm _ _ _ _ _ _ _ _ _ w hF rfl (by omega) hi (by unfold maxLen at *; omega) (by rw [hsz]; exact Nat.le_refl _) (by rw [hsz]; omega) (fun w' hF' => ?_)
  have hs2 : ((b.extract so (so + n * 64)).extract (i * 64) (i * 64 + 64)).size = 64 := by rw [ByteArray.size_extract, hsz]; omega
  refine (section_64 b _ k o w' hF' hs2 ho).mono fun r w'' ⟨h1, h2⟩ => ⟨?_, h2⟩
  have hv : r = .returned (.agg (Sec.v ⟨num b (so + i * 64) 4 o, num b (so + i * 64 + 4) 4 o, num b (so + i * 64 + 8) 8 o, num b (so + i * 64 + 40) 4 o, num b (so + i * 64 + 44) 4 o, num b (so + i * 64 + 24) 8 o, num b (so + i * 64 + 32) 8 o, num b (so + i * 64 + 56) 8 o⟩)) := by
    have e0 : numI ((b.extract so (so + n * 64)).extract (i * 64) (i * 64 + 64)) 0 4 o = ((num b (so + i * 64 + 0) 4 o : Nat) : Int) := congrArg (Nat.cast : Nat → Int) (num_two b so (so + n * 64) (i * 64) 64 0 4 o (by omega) hq)
    have e1 : numI ((b.extract so (so + n * 64)).extract (i * 64) (i * 64 + 64)) 4 4 o = ((num b (so + i * 64 + 4) 4 o : Nat) : Int) := congrArg (Nat.cast : Nat → Int) (num_two b so (so + n * 64) (i * 64) 64 4 4 o (by omega) hq)
    have e2 : numI ((b.extract so (so + n * 64)).extract (i * 64) (i * 64 + 64)) 8 8 o = ((num b (so + i * 64 + 8) 8 o : Nat) : Int) := congrArg (Nat.cast : Nat → Int) (num_two b so (so + n * 64) (i * 64) 64 8 8 o (by omega) hq)
    have e3 : numI ((b.extract so (so + n * 64)).extract (i * 64) (i * 64 + 64)) 40 4 o = ((num b (so + i * 64 + 40) 4 o : Nat) : Int) := congrArg (Nat.cast : Nat → Int) (num_two b so (so + n * 64) (i * 64) 64 40 4 o (by omega) hq)
    have e4 : numI ((b.extract so (so + n * 64)).extract (i * 64) (i * 64 + 64)) 44 4 o = ((num b (so + i * 64 + 44) 4 o : Nat) : Int) := congrArg (Nat.cast : Nat → Int) (num_two b so (so + n * 64) (i * 64) 64 44 4 o (by omega) hq)
    have e5 : numI ((b.extract so (so + n * 64)).extract (i * 64) (i * 64 + 64)) 24 8 o = ((num b (so + i * 64 + 24) 8 o : Nat) : Int) := congrArg (Nat.cast : Nat → Int) (num_two b so (so + n * 64) (i * 64) 64 24 8 o (by omega) hq)
    have e6 : numI ((b.extract so (so + n * 64)).extract (i * 64) (i * 64 + 64)) 32 8 o = ((num b (so + i * 64 + 32) 8 o : Nat) : Int) := congrArg (Nat.cast : Nat → Int) (num_two b so (so + n * 64) (i * 64) 64 32 8 o (by omega) hq)
    have e7 : numI ((b.extract so (so + n * 64)).extract (i * 64) (i * 64 + 64)) 56 8 o = ((num b (so + i * 64 + 56) 8 o : Nat) : Int) := congrArg (Nat.cast : Nat → Int) (num_two b so (so + n * 64) (i * 64) 64 56 8 o (by omega) hq)
    rw [h1, e0, e1, e2, e3, e4, e5, e6, e7]
    rfl
  exact hv
theorem id_64 (b : ByteArray) (hm : b.size ≤ maxLen) (hE : identE b = 0) (hc : cls b = 64) : ∀ w : World, Magic w → Calls Tryd.prog 54 #[.string b] w fun r w' => ∃ k, r = .returned (.pointer (some ⟨k, 0, none⟩)) ∧ Below w.heap.size w w' ∧ w'.heap[k]? = some (.cells (fileCells 64 (ord b) b) 107 (0, 0)) :=
  fun w hM => (identify_c b w hM hm).mono fun r w' ⟨h1, h2⟩ => by
    rcases h2 with ⟨_, k, h3, _, h4⟩ | ⟨h3, _⟩
    · refine ⟨k, h3, h1, ?_⟩
      unfold FileAt at h4
      rw [hc] at h4
      exact h4
    · exact absurd hE h3
theorem rent_64 (b : ByteArray) (p : Nat) (o e2 e3 e4 e5 e6 e7 : Int) (w : World) (hs : p + 64 ≤ b.size) (hm : b.size ≤ maxLen) (ho : o = 0 ∨ o = 1) :
    Calls Tryd.prog 63 #[.string b, .int .i64 p, .agg #[.int .i64 64, .int .i64 o, .int .i64 e2, .int .i64 e3, .int .u64 e4, .int .i64 e5, .int .i64 e6, .int .i64 e7]] w fun r w' => r = .returned (.agg (secOf b 64 o p).v) ∧ Below w.heap.size w w' := by
  rw [sec64]
  exact rEntry_64 b p o e2 e3 e4 e5 e6 e7 w hs hm ho
end Go.Proofs.YtaeigacinefhnabDoor
