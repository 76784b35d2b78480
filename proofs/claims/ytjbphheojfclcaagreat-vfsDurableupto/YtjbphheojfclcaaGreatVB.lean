
import Derived.Test.YtjbphheojfclcaaGreatShelf
import Derived.Test.YtjbphheojfclcaaGreatVA
import Derived.BigCall
import Derived.BigRegion
import Derived.Deep.LoopGhost
import Derived.WalkMore
import Derived.LoopN
import Derived.Deep.RegionWith
import Derived.Deep.RegionLaw
import Derived.Deep.RegionHeld3
import Derived.Sort.OwnSorted
import Derived.Sort.KeysCollected
import Derived.Sort.Walk0
import Derived.Laws.IdiomRangeMap
-- disk.isName: what a file's name is.
namespace Go.Proofs.YtjbphheojfclcaaGreat
open Go.RowKit
set_option linter.unusedVariables false
set_option maxRecDepth 100000
set_option linter.unusedSimpArgs false
def chs : ByteArray := ⟨#[47, 0]⟩
theorem any_ok (l : List UInt8) : decide (0 ≤ Lib.indexAny l [47, 0]) = !l.all okByte := by
  induction l with
  | nil => rfl
  | cons b r ih =>
    have hge := Lib.indexAny_ge [47, 0] r
    rw [Lib.indexAny, List.all_cons]
    have hc : ([47, 0] : List UInt8).contains b = !okByte b := by
      unfold okByte
      simp only [List.contains_cons, List.contains_nil, bne]
      cases (b == 47) <;> cases (b == 0) <;> rfl
    rw [hc]
    cases hb : okByte b
    · simp
    · simp only [Bool.not_true, Bool.false_eq_true, if_false, Bool.true_and, ← ih]
      by_cases hm : Lib.indexAny r [47, 0] = -1
      · rw [hm]; rfl
      · rw [if_neg (by simpa using hm)]
        exact decide_eq_decide.2 (by omega)
theorem no_ok {l : List UInt8} (h : Lib.NoAny l [47, 0] l.length) : l.all okByte = true := by
  have := any_ok l
  rw [Lib.indexAny_none h] at this
  simpa using this.symm
theorem hit_ok {l : List UInt8} {i : Nat} {x : UInt8} (hx : l[i]? = some x) (h : ([47, 0] : List UInt8).contains x = true) : l.all okByte = false := by
  rw [List.all_eq_false]
  refine ⟨x, List.mem_of_getElem? hx, ?_⟩
  unfold okByte
  simp only [List.contains_cons, List.contains_nil] at h
  simp only [bne]
  revert h
  cases (x == 47) <;> cases (x == 0) <;> simp
theorem big_no {b : UInt8} (h : 128 ≤ b.toNat) : ([47, 0] : List UInt8).contains b = false := by
  have h1 : (b == 47) = false := by
    refine beq_eq_false_iff_ne.2 fun e => ?_
    subst e; revert h; decide
  have h2 : (b == 0) = false := by
    refine beq_eq_false_iff_ne.2 fun e => ?_
    subst e; revert h; decide
  simp only [List.contains_cons, List.contains_nil, h1, h2]; rfl
theorem get_bang (s : ByteArray) (j : Nat) (h : j < s.size) : s.data.toList[j]? = some (s.get! j) := by
  rw [Lib.data_getElem? s j h]
  simp [ByteArray.get!, getElem!_pos, h]
  rfl
theorem decode_hi (s : ByteArray) (i : Nat) (hi : i < s.size) (h0 : 128 ≤ (s.get! i).toNat) : 128 ≤ (Utf8.decode s i).1 ∧ (Utf8.decode s i).1 ≤ 1114111 ∧ 1 ≤ (Utf8.decode s i).2 ∧ i + (Utf8.decode s i).2 ≤ s.size ∧ ∀ j, i ≤ j → j < i + (Utf8.decode s i).2 → 128 ≤ (s.get! j).toNat := by
  have hb : ∀ j, (s.get! j).toNat < 256 := fun j => (s.get! j).toNat_lt
  have hb0 := hb (i + 0)
  have one : ∀ j, i ≤ j → j < i + 1 → 128 ≤ (s.get! j).toNat := fun j h1 h2 => by obtain rfl : j = i := by omega
                                                                                  exact h0
  unfold Utf8.decode
  simp only [Nat.add_zero]
  rw [if_neg (by omega)]
  split
  · rename_i h
    simp only [Bool.and_eq_true, beq_iff_eq, decide_eq_true_eq] at h
    split
    · rename_i hc
      have := hb (i + 1)
      refine ⟨by simpa using hc, by simp only; omega, by simp, by simp only; omega, fun j h1 h2 => ?_⟩
      simp only at h2
      rcases (by omega : j = i ∨ j = i + 1) with rfl | rfl
      · exact h0
      · omega
    · exact ⟨by simp [Utf8.runeError], by simp [Utf8.runeError], by simp, by simp only; omega, one⟩
  · split
    · rename_i _ h
      simp only [Bool.and_eq_true, beq_iff_eq, decide_eq_true_eq] at h
      have := hb (i + 1); have := hb (i + 2)
      split
      · rename_i hc
        simp only [Bool.and_eq_true, decide_eq_true_eq] at hc
        refine ⟨by simp only; omega, by simp only; omega, by simp, by simp only; omega, fun j h1 h2 => ?_⟩
        simp only at h2
        rcases (by omega : j = i ∨ j = i + 1 ∨ j = i + 2) with rfl | rfl | rfl
        · exact h0
        · omega
        · omega
      · exact ⟨by simp [Utf8.runeError], by simp [Utf8.runeError], by simp, by simp only; omega, one⟩
    · split
      · rename_i _ _ h
        simp only [Bool.and_eq_true, beq_iff_eq, decide_eq_true_eq] at h
        have := hb (i + 1); have := hb (i + 2); have := hb (i + 3)
        split
        · rename_i hc
          simp only [Bool.and_eq_true, decide_eq_true_eq] at hc
          have hv := hc.2
          unfold Utf8.valid at hv
          simp only [Bool.or_eq_true, Bool.and_eq_true, decide_eq_true_eq] at hv
          refine ⟨by simp only; omega, by simp only; omega, by simp, by simp only; omega, fun j h1 h2 => ?_⟩
          simp only at h2
          rcases (by omega : j = i ∨ j = i + 1 ∨ j = i + 2 ∨ j = i + 3) with rfl | rfl | rfl | rfl
          · exact h0
          · omega
          · omega
          · omega
        · exact ⟨by simp [Utf8.runeError], by simp [Utf8.runeError], by simp, by simp only; omega, one⟩
      · exact ⟨by simp [Utf8.runeError], by simp [Utf8.runeError], by simp, by simp only; omega, one⟩
def stepIt (w : World) (r : Nat) (s : ByteArray) (pos : Nat) : World := { w with heap := w.heap.setIfInBounds r (.stringIter s pos) }
theorem next_str {P : Program} (w : World) (r : Nat) (s : ByteArray) (pos : Nat) (ty : TypeId) (hr : w.heap[r]? = some (.stringIter s pos)) (h : pos < s.size) :
    (Instr.next (.pointer (some ⟨r, 0, none⟩)) true ty).run P w = .ok (.tuple #[.bool true, .int .i64 pos, .int .i32 (Utf8.decode s pos).1]) (stepIt w r s (pos + (Utf8.decode s pos).2)) := by
  simp only [Instr.next, getObj, setObj, Sem.run_bind, Sem.run, hr, Result.andThen, h, if_true]
  simp [goInt, Sem.run, hr, stepIt]
theorem next_str_end {P : Program} (w : World) (r : Nat) (s : ByteArray) (pos : Nat) (ty : TypeId) (hr : w.heap[r]? = some (.stringIter s pos)) (h : ¬ pos < s.size) :
    (Instr.next (.pointer (some ⟨r, 0, none⟩)) true ty).run P w = .ok (.tuple #[.bool false]) w := by
  simp [Instr.next, getObj, Sem.run, hr, h]
theorem stepIt_at {w : World} {r : Nat} {s : ByteArray} {pos : Nat} (hr : w.heap[r]? = some (.stringIter s pos)) (q : Nat) : (stepIt w r s q).heap[r]? = some (.stringIter s q) := (MapKept.heap_set hr).1
theorem stepIt_below {B r : Nat} {w0 w : World} (h : Below B w0 w) (hr : B ≤ r) (s : ByteArray) (q : Nat) : Below B w0 (stepIt w r s q) :=
  ⟨h.os, h.tape, h.output, by have := h.size; simpa [stepIt] using this, fun k hk => by
    have e : (stepIt w r s q).heap[k]? = w.heap[k]? := by simp [stepIt, Array.getElem?_setIfInBounds, (show ¬ r = k by omega)]
    rw [e]; exact h.block k hk⟩
def itLeft (w : World) (r : Nat) : Nat := match w.heap[r]? with | some (.stringIter s pos) => s.size - pos | _ => 0
theorem itLeft_eq {w : World} {r : Nat} {s : ByteArray} {pos : Nat} (hr : w.heap[r]? = some (.stringIter s pos)) : itLeft w r = s.size - pos := by simp [itLeft, hr]
theorem blk_lt' {w : World} {b : Nat} {o : Obj} (h : w.heap[b]? = some o) : b < w.heap.size := (Array.getElem?_eq_some_iff.1 h).1
theorem enc_two (r : Int) (h0 : 128 ≤ r) (h1 : r < 2048) : ∃ b c : UInt8, Utf8.encode r = ⟨#[b, c]⟩ ∧ 128 ≤ c.toNat := by
  refine ⟨UInt8.ofNat (0xC0 + r.toNat / 64), UInt8.ofNat (0x80 + r.toNat % 64), ?_, ?_⟩
  · unfold Utf8.encode
    have hv : Utf8.valid r = true := by unfold Utf8.valid; simp; omega
    rw [if_pos hv, if_neg (by omega), if_pos (by omega)]
  · simp; omega
theorem enc_more (r : Int) (h0 : 2048 ≤ r) : 3 ≤ (Utf8.encode r).size := by
  unfold Utf8.encode
  have hc : 2048 ≤ (if Utf8.valid r then r.toNat else Utf8.runeError) := by
    split
    · omega
    · simp [Utf8.runeError]
  obtain ⟨c, hcc⟩ : ∃ c, c = (if Utf8.valid r then r.toNat else Utf8.runeError) := ⟨_, rfl⟩
  rw [← hcc] at hc ⊢
  simp only
  rw [if_neg (by omega), if_neg (by omega)]
  split
  · show 3 ≤ 3; omega
  · show 3 ≤ 4; omega
set_option maxHeartbeats 4000000 in
set_option maxRecDepth 100000 in
theorem rune_err (w : World) :
    Calls Tryz.prog 99 #[.string ⟨#[47, 0]⟩, .int .i32 65533] w fun e w' => e = .returned (.int .i64 (-1)) ∧ Below w.heap.size w w' := by
  have h0 := run_next_ascii (P := Tryz.prog) w ⟨#[47, 0]⟩ 0
  have h1 := run_next_ascii (P := Tryz.prog) w ⟨#[47, 0]⟩ 1
  have h2 := run_next_end (P := Tryz.prog) w ⟨#[47, 0]⟩ 2
  have e0 : ∀ ty, (Instr.next (.pointer (some ⟨w.heap.size, 0, none⟩)) true ty).run Tryz.prog (w.iter ⟨#[47, 0]⟩ 0) = .ok (.tuple #[.bool true, .int .i64 0, .int .i32 47]) (w.iter ⟨#[47, 0]⟩ 1) := fun ty => h0 ty (by decide) (by decide)
  have e1 : ∀ ty, (Instr.next (.pointer (some ⟨w.heap.size, 0, none⟩)) true ty).run Tryz.prog (w.iter ⟨#[47, 0]⟩ 1) = .ok (.tuple #[.bool true, .int .i64 1, .int .i32 0]) (w.iter ⟨#[47, 0]⟩ 2) := fun ty => h1 ty (by decide) (by decide)
  have e2 : ∀ ty, (Instr.next (.pointer (some ⟨w.heap.size, 0, none⟩)) true ty).run Tryz.prog (w.iter ⟨#[47, 0]⟩ 2) = .ok (.tuple #[.bool false]) (w.iter ⟨#[47, 0]⟩ 2) := fun ty => h2 ty (by decide)
  have HB : Hid (∀ k, Below w.heap.size w (w.iter ⟨#[47, 0]⟩ k)) := fun k => (Below.refl _ w).alloc (Nat.le_refl _) _
  clear h0 h1 h2
  go_enter Tryz.func99, Tryz.ntmps99
  go_wp2
  go_loopg [5, 6] 2 (fun g _ _ wx => wx = w.iter ⟨#[47, 0]⟩ (2 - g) ∧ g ≤ 2)
  case atStart => exact ⟨rfl, Nat.le_refl _⟩
  case round =>
    obtain ⟨rfl, hg⟩ := hrel
    match gk, hg with
    | 0, _ =>
      go_wp2
      go_ret
      exact ⟨rfl, HB.out _⟩
    | 1, _ =>
      go_wp2
      go_roundg 0
      case measure => omega
      case rel => exact ⟨rfl, by omega⟩
    | 2, _ =>
      go_wp2
      go_roundg 1
      case measure => omega
      case rel => exact ⟨rfl, by omega⟩
set_option maxHeartbeats 4000000 in
set_option maxRecDepth 100000 in
theorem rune_two (r : Int) (h0 : 128 ≤ r) (h1 : r < 2048) (w : World) :
    Calls Tryz.prog 99 #[.string ⟨#[47, 0]⟩, .int .i32 r] w fun e w' => e = .returned (.int .i64 (-1)) ∧ Below w.heap.size w w' := by
  obtain ⟨b, c, he, hc⟩ := enc_two r h0 h1
  have hs : (⟨#[b, c]⟩ : ByteArray).size = 2 := rfl
  have hcv : ∀ W, (convert 21 9 (.int .i32 r)).run Tryz.prog W = .ok (.string ⟨#[b, c]⟩) W := fun W => by rw [run_convert_int_string W 21 9 .i32 r (by rw [Tryz.underlying21]; rfl) Tryz.underlying9, he]
  clear he
  have hi1 : ∀ W, (Instr.index 9 (.string ⟨#[47, 0]⟩) (.int .i64 1)).run Tryz.prog W = .ok (.int .u8 0) W := fun W => by kernel_rfl
  have hi2 : ∀ W, (Instr.index 9 (.string ⟨#[b, c]⟩) (.int .i64 1)).run Tryz.prog W = .ok (.int .u8 c.toNat) W := fun W => by
    have := run_index_string (P := Tryz.prog) W 9 ⟨#[b, c]⟩ .i64 1 Tryz.underlying9
    rw [dif_pos (by rw [hs]; decide)] at this
    exact this
  have hw2 : IntKind.i64.wrap 2 = 2 := by decide
  have hIB : Hid (∀ W, Calls Tryz.prog 104 #[.string ⟨#[]⟩, .int .u8 c.toNat] W fun e w' => e = .returned (.int .i64 (-1)) ∧ w' = W) := fun W => (Tryz.strings_IndexByte ⟨#[]⟩ c.toNat W).mono fun e w' h => by simpa [Lib.indexByte] using h
  have hne : ((0 : Int) != (c.toNat : Int)) = true := by simp; omega
  have hsl : ∀ W, (Instr.slice 9 (.string ⟨#[47, 0]⟩) (some (.int .i64 2)) none none).run Tryz.prog W = .ok (.string ⟨#[]⟩) W := fun W => by kernel_rfl
  go_enter Tryz.func99, Tryz.ntmps99
  go_wp2_with (go_at_call 105; refine (Tryz.utf8_ValidRune _ _).mono ?_; rintro e w1 ⟨rfl, hw1⟩; subst w1)
  · go_ret
    exact ⟨rfl, Below.refl _ _⟩
  · go_step3
    go_wp2
    refine wp_loop_rounds 1 ?_
    rw [rounds_succ]
    go_wp2
    go_step3
    go_wp2_with fail
    go_quiet (fail)
    go_wp2_with fail
    obtain ⟨W, hW⟩ : ∃ W, W = w.drewN nq := ⟨_, rfl⟩
    have HW : Hid (Below w.heap.size w W) := by rw [hW]; exact below_drewN (Below.refl _ _) _
    rw [← hW]
    clear hW
    go_quiet (first | (go_at_call 104; exact Calls.quiet_of_same (hIB.out _)))
    go_wp2
    rw [Exit.noGoto_ret]
    go_wp2
    rw [Exit.noGoto_ret]
    go_wp2
    go_ret
    exact ⟨rfl, below_drewN HW.out _⟩
theorem enc_size (r : Int) : (Utf8.encode r).size ≤ 4 := by
  unfold Utf8.encode
  obtain ⟨c, hcc⟩ : ∃ c, c = (if Utf8.valid r then r.toNat else Utf8.runeError) := ⟨_, rfl⟩
  rw [← hcc]
  simp only
  split
  · show 1 ≤ 4; omega
  · split
    · show 2 ≤ 4; omega
    · split
      · show 3 ≤ 4; omega
      · show 4 ≤ 4; omega
set_option maxHeartbeats 4000000 in
set_option maxRecDepth 100000 in
theorem rune_more (r : Int) (h0 : 2048 ≤ r) (hne : r ≠ 65533) (w : World) :
    Calls Tryz.prog 99 #[.string ⟨#[47, 0]⟩, .int .i32 r] w fun e w' => e = .returned (.int .i64 (-1)) ∧ Below w.heap.size w w' := by
  have hs3 := enc_more r h0
  have hs4 := enc_size r
  obtain ⟨S, he⟩ : ∃ S, S = Utf8.encode r := ⟨_, rfl⟩
  have hcv : ∀ W, (convert 21 9 (.int .i32 r)).run Tryz.prog W = .ok (.string S) W := fun W => by rw [run_convert_int_string W 21 9 .i32 r (by rw [Tryz.underlying21]; rfl) Tryz.underlying9, he]
  rw [← he] at hs3 hs4
  clear he
  have b1 : (r == 65533) = false := by simpa using hne
  have b2 : decide ((S.size : Int) - 1 < 2) = false := decide_eq_false (by omega)
  have hw1 : IntKind.i64.wrap ((S.size : Int) - 1) = (S.size : Int) - 1 := wrap_i64 (by omega)
  clear hne
  go_enter Tryz.func99, Tryz.ntmps99
  go_wp2_with (go_at_call 105; refine (Tryz.utf8_ValidRune _ _).mono ?_; rintro e w1 ⟨rfl, hw1⟩; subst w1)
  · go_ret
    exact ⟨rfl, Below.refl _ _⟩
  · go_step3
    go_wp2
    refine wp_loop_rounds 1 ?_
    rw [rounds_succ]
    go_wp2
    all_goals (try (rw [Exit.noGoto_ret]; go_wp2))
    all_goals go_ret
    all_goals exact ⟨rfl, Below.refl _ _⟩
theorem rune_hi (r : Int) (h0 : 128 ≤ r) (w : World) :
    Calls Tryz.prog 99 #[.string ⟨#[47, 0]⟩, .int .i32 r] w fun e w' => e = .returned (.int .i64 (-1)) ∧ Below w.heap.size w w' := by
  by_cases h : r = 65533
  · subst h; exact rune_err w
  · by_cases h2 : r < 2048
    · exact rune_two r h0 h2 w
    · exact rune_more r (by omega) h w
theorem zero256 : (Tryz.prog.info? 180).map (·.zero) = some (some (.agg (Array.replicate 256 (.bool false)))) := by kernel_rfl
theorem zero256r (w : World) : (zeroValue 180).run Tryz.prog w = .ok (.agg (Array.replicate 256 (.bool false))) w := by
  obtain ⟨j, hj, hz⟩ := Option.map_eq_some_iff.1 zero256
  simp [zeroValue, typeInfo, hj, hz]
set_option maxHeartbeats 4000000 in
set_option maxRecDepth 100000 in
theorem any_short (s : ByteArray) (w : World) (h8 : s.size ≤ 8) :
    Calls Tryz.prog 92 #[.string s, .string ⟨#[47, 0]⟩] w fun e w' => ∃ n : Int, e = .returned (.int .i64 n) ∧ decide (0 ≤ n) = !s.data.toList.all okByte ∧ Below w.heap.size w w' := by
  have h8z : decide ((8 : Int) < (s.size : Int)) = false := decide_eq_false (by omega)
  have HC0 : Hid ((⟨#[47, 0]⟩ : ByteArray).data.toList = [47, 0]) := rfl
  have hrg : (Instr.range 9 (.string s)).run Tryz.prog w = .ok (.pointer (some ⟨w.heap.size, 0, none⟩)) (w.alloc (.stringIter s 0)) := run_range_string w 9 s Tryz.underlying9
  have HB0 : Hid ((w.alloc (.stringIter s 0)).heap[w.heap.size]? = some (.stringIter s 0) ∧ Below w.heap.size w (w.alloc (.stringIter s 0))) := ⟨heap_alloc_new w _, (Below.refl _ w).alloc (Nat.le_refl _) _⟩
  go_enter Tryz.func92, Tryz.ntmps92
  go_wp2_with (go_at_call 100; refine (Tryz.strings_shouldUseASCIISet _ _).mono ?_; rintro e w1 ⟨rfl, hw1⟩; subst w1; rw [h8z])
  go_loopw [9, 10] (fun _ _ wx => ∃ i : Nat, i ≤ s.size ∧ wx.heap[w.heap.size]? = some (.stringIter s i) ∧ Below w.heap.size w wx ∧ Lib.NoAny s.data.toList [47, 0] i) (fun _ _ wx => itLeft wx w.heap.size)
  case atStart => exact ⟨0, Nat.zero_le _, HB0.out.1, HB0.out.2, Lib.NoAny.zero _ _⟩
  case round =>
    obtain ⟨i, hi, hit, hbw, hno⟩ := hrel
    have HN : Hid (Lib.NoAny s.data.toList [47, 0] i) := hno
    have HIT : Hid (wr.heap[w.heap.size]? = some (.stringIter s i)) := hit
    have HBW : Hid (Below w.heap.size w wr) := hbw
    by_cases hlt : i < s.size
    · have hnx := fun ty => next_str (P := Tryz.prog) wr w.heap.size s i ty hit hlt
      have hgb := get_bang s i hlt
      by_cases hlo : (s.get! i).toNat < 128
      · have hd : Utf8.decode s i = ((s.get! i).toNat, 1) := by unfold Utf8.decode; simp only [Nat.add_zero]; rw [if_pos hlo]
        obtain ⟨x, hx⟩ : ∃ x, x = s.get! i := ⟨_, rfl⟩
        rw [hd] at hnx
        rw [← hx] at hnx hgb hlo
        simp only at hnx
        have HX : Hid (s.data.toList[i]? = some x) := hgb
        obtain ⟨w2, hw2⟩ : ∃ w2, w2 = stepIt wr w.heap.size s (i + 1) := ⟨_, rfl⟩
        have H2 : Hid (w2.heap[w.heap.size]? = some (.stringIter s (i + 1)) ∧ Below w.heap.size w w2) := by rw [hw2]; exact ⟨stepIt_at hit _, stepIt_below hbw (Nat.le_refl _) _ _⟩
        rw [← hw2] at hnx
        have hcon := Lib.contains_iff_indexByte [47, 0] x
        have HR : Hid (∀ W, Calls Tryz.prog 99 #[.string ⟨#[47, 0]⟩, .int .i32 x.toNat] W fun e w' => e = .returned (.int .i64 (Lib.indexByte [47, 0] x)) ∧ w' = W) := fun W => (Tryz.strings_IndexRune_ascii ⟨#[47, 0]⟩ x.toNat W (by omega) (by omega)).mono fun e w' h => by simpa using h
        obtain ⟨q, hq⟩ : ∃ q, q = Lib.indexByte [47, 0] x := ⟨_, rfl⟩
        rw [← hq] at hcon HR
        clear hit hbw hno hgb hd hx hw2 hq
        cases hin : ([47, 0] : List UInt8).contains x
        · have hb : decide (0 ≤ q) = false := by rw [← hcon, hin]
          have HIN : Hid (([47, 0] : List UInt8).contains x = false) := hin
          clear hcon hin
          go_wp2_with (go_at_call 99; refine (HR.out _).mono ?_; rintro e w3 ⟨rfl, hw3⟩; subst w3)
          refine ⟨⟨i + 1, hlt, H2.out.1, H2.out.2, HN.out.succ HX.out HIN.out⟩, ?_⟩
          rw [itLeft_eq H2.out.1, itLeft_eq HIT.out]; omega
        · have hb : decide (0 ≤ q) = true := by rw [← hcon, hin]
          have HIN : Hid (([47, 0] : List UInt8).contains x = true) := hin
          clear hcon hin
          go_wp2_with (go_at_call 99; refine (HR.out _).mono ?_; rintro e w3 ⟨rfl, hw3⟩; subst w3)
          go_ret
          exact ⟨i, rfl, by rw [hit_ok HX.out HIN.out]; simp, H2.out.2⟩
      · obtain ⟨d1, d2, d3, d4, d5⟩ := decode_hi s i hlt (by omega)
        obtain ⟨c, hc⟩ : ∃ c, c = (Utf8.decode s i).1 := ⟨_, rfl⟩
        obtain ⟨k, hk⟩ : ∃ k, k = (Utf8.decode s i).2 := ⟨_, rfl⟩
        rw [← hc, ← hk] at hnx
        rw [← hc] at d1
        rw [← hk] at d3 d4 d5
        have HNO : Hid (Lib.NoAny s.data.toList [47, 0] (i + k)) := fun j b hj hb => by
          by_cases hji : j < i
          · exact HN.out j b hji hb
          · have := d5 j (by omega) hj
            rw [get_bang s j (by omega)] at hb
            cases hb
            exact big_no this
        obtain ⟨w2, hw2⟩ : ∃ w2, w2 = stepIt wr w.heap.size s (i + k) := ⟨_, rfl⟩
        have H2 : Hid (w2.heap[w.heap.size]? = some (.stringIter s (i + k)) ∧ Below w.heap.size w w2) := by rw [hw2]; exact ⟨stepIt_at hit _, stepIt_below hbw (Nat.le_refl _) _ _⟩
        rw [← hw2] at hnx
        have HR : Hid (∀ W, Calls Tryz.prog 99 #[.string ⟨#[47, 0]⟩, .int .i32 c] W fun e w' => e = .returned (.int .i64 (-1)) ∧ Below W.heap.size W w') := fun W => rune_hi c (by omega) W
        clear hit hbw hno hgb hw2 hc hk d2 d5 hlo
        go_wp2_with (go_at_call 99; refine (HR.out _).mono ?_; rintro e w3 ⟨rfl, hb3⟩)
        have h2l : w.heap.size < w2.heap.size := blk_lt' H2.out.1
        have hit3 : w3.heap[w.heap.size]? = some (.stringIter s (i + k)) := (hb3.block _ h2l).trans H2.out.1
        refine ⟨⟨i + k, d4, hit3, H2.out.2.trans (hb3.mono (Nat.le_of_lt h2l)), HNO.out⟩, ?_⟩
        rw [itLeft_eq hit3, itLeft_eq HIT.out]; omega
    · obtain rfl : i = s.size := by omega
      have hnx := fun ty => next_str_end (P := Tryz.prog) wr w.heap.size s s.size ty hit hlt
      clear hit hbw hno
      go_wp2
      go_ret
      refine ⟨-1, rfl, ?_, HBW.out⟩
      rw [no_ok (by rw [← Lib.size_eq]; exact HN.out)]; rfl
theorem any_c (s : ByteArray) (w : World) (hs : s.size ≤ 64) :
    Calls Tryz.prog 92 #[.string s, .string ⟨#[47, 0]⟩] w fun e w' => ∃ n : Int, e = .returned (.int .i64 n) ∧ decide (0 ≤ n) = !s.data.toList.all okByte ∧ Below w.heap.size w w' := by
  by_cases h : s.size ≤ 8
  · exact any_short s w h
  · refine (Tryz.strings_IndexAny_long zero256r s ⟨#[47, 0]⟩ w (by decide) (by omega) (by omega) (by decide) ?_).mono ?_
    · intro j b hb
      match j, hb with
      | 0, hb => simp at hb; subst hb; decide
      | 1, hb => simp at hb; subst hb; decide
      | j + 2, hb => simp at hb
    · rintro e w' ⟨rfl, rfl⟩
      exact ⟨_, rfl, any_ok _, ((Below.refl _ w).alloc (Nat.le_refl _) _).alloc (by simp) _⟩
set_option maxHeartbeats 1000000 in
theorem contains_c (s : ByteArray) (w : World) (hs : s.size ≤ 64) :
    Calls Tryz.prog 79 #[.string s, .string ⟨#[47, 0]⟩] w fun e w' => e = .returned (.bool (!s.data.toList.all okByte)) ∧ Below w.heap.size w w' := by
  have HA : Hid (∀ W, Calls Tryz.prog 92 #[.string s, .string ⟨#[47, 0]⟩] W fun e w' => ∃ n : Int, e = .returned (.int .i64 n) ∧ decide (0 ≤ n) = !s.data.toList.all okByte ∧ Below W.heap.size W w') := fun W => any_c s W hs
  obtain ⟨q, hq⟩ : ∃ q, q = !s.data.toList.all okByte := ⟨_, rfl⟩
  rw [← hq] at HA ⊢
  clear hq
  go_enter Tryz.func79, Tryz.ntmps79
  go_wp2_with (go_at_call 92; refine (HA.out _).mono ?_; rintro e w1 ⟨n, rfl, hn, hb⟩)
  go_ret
  exact ⟨rfl, hb⟩
set_option maxHeartbeats 1000000 in
theorem isName_c (s : ByteArray) (w : World) :
    Calls Tryz.prog 68 #[.string s] w fun e w' => e = .returned (.bool (okName s)) ∧ Below w.heap.size w w' := by
  by_cases h0 : s = ⟨#[]⟩
  · subst h0
    go_enter Tryz.func68, Tryz.ntmps68
    go_wp2
    go_ret
    exact ⟨rfl, Below.refl _ _⟩
  · have h1 := empty_no h0
    have hs1 : 1 ≤ s.size := by
      rcases Nat.eq_zero_or_pos s.size with h | h
      · exact absurd (by cases s with | mk d => have e : d = #[] := Array.eq_empty_of_size_eq_zero h; rw [e]) h0
      · exact h
    have hl : s.toList.isEmpty = false := by
      cases h : s.toList with
      | nil => exact absurd h h1
      | cons _ _ => rfl
    by_cases h64 : s.size ≤ 64
    · have b1 : decide ((s.size : Int) ≤ 64) = true := decide_eq_true (by omega)
      have HA : Hid (∀ W, Calls Tryz.prog 79 #[.string s, .string ⟨#[47, 0]⟩] W fun e w' => e = .returned (.bool (!s.data.toList.all okByte)) ∧ Below W.heap.size W w') := fun W => contains_c s W h64
      have HE : Hid (okName s = s.data.toList.all okByte) := by show okName s = _; unfold okName; simp [hs1, h64]
      obtain ⟨q, hq⟩ : ∃ q, q = s.data.toList.all okByte := ⟨_, rfl⟩
      rw [← hq] at HA HE
      rw [HE.out]
      clear hq HE h0
      go_enter Tryz.func68, Tryz.ntmps68
      go_wp2_with (go_at_call 79; refine (HA.out _).mono ?_; rintro e w1 ⟨rfl, hb⟩)
      go_ret
      exact ⟨by simp, hb⟩
    · have b1 : decide ((s.size : Int) ≤ 64) = false := decide_eq_false (by omega)
      have HE : Hid (okName s = false) := by show okName s = false; unfold okName; simp [h64]
      rw [HE.out]
      clear HE h0
      go_enter Tryz.func68, Tryz.ntmps68
      go_wp2
      go_ret
      exact ⟨rfl, Below.refl _ _⟩
end Go.Proofs.YtjbphheojfclcaaGreat

-- The program's helpers: a change of a directory, and what is done to the volume's maps.
namespace Go.Proofs.YtjbphheojfclcaaGreat
open Go.RowKit
set_option linter.unusedVariables false
theorem zero3 (w : World) : (zeroValue 3).run Tryz.prog w = .ok (.int .i64 0) w := Tryz.zeroValue3 w
theorem Kp.refl (F : Nat → Prop) (w : World) : Kp F w w := ⟨rfl, rfl, rfl, Nat.le_refl _, fun _ _ _ => rfl⟩
theorem Kp.wide {F G : Nat → Prop} {w w' : World} (h : Kp F w w') (hG : ∀ k, F k → G k) : Kp G w w' := ⟨h.os, h.tape, h.output, h.size, fun k hk hn => h.block k hk (fun e => hn (hG k e))⟩
theorem Kp.turned {b : Nat} {w w' : World} (h : Turned w w' b) : Kp (fun k => k = b) w w' := h.kp rfl
set_option maxHeartbeats 4000000 in
theorem apply_c (c : Chg) (b : Nat) (d : Dr) (w : World) (h : MapAt .string w b (dv d)) :
    Calls Tryz.prog 61 #[.agg #[.string c.fr, .string c.to, .int .i64 c.num], .map (some b)] w fun e w' => e = .returned (.tuple #[]) ∧ MapAt .string w' b (dv (c.app d)) ∧ Kp (fun k => k = b) w w' := by
  obtain ⟨fr, to, num⟩ := c
  obtain ⟨X, hX⟩ : ∃ X, X = Obj.cells #[.string fr, .string to, .int .i64 num] 137 := ⟨_, rfl⟩
  have hlt := h.lt
  have h1 : MapAt .string (w.alloc X) b (dv d) := h.keep (Lib.alloc_old w _ b hlt)
  obtain ⟨w2, hr2, h2, ht2⟩ := dv_drop (P := Tryz.prog) (t := 99) (k := 9) (e := 3) h1 Tryz.underlying99 Tryz.underlying9 fr 0
  have hs2 := ht2.size
  have hx2 : w2.heap[w.heap.size]? = some (.cells #[.string fr, .string to, .int .i64 num] 137) := by
    rw [ht2.other (by omega), heap_alloc_new, hX]
  have c0 : (w.alloc X).cell? ⟨w.heap.size, 0, none⟩ = some (.string fr) := by rw [Lib.cell_of_heap (by rw [heap_alloc_new, hX])]; rfl
  have c1 : w2.cell? ⟨w.heap.size, 1, none⟩ = some (.string to) := by rw [Lib.cell_of_heap hx2]; rfl
  have c2 : w2.cell? ⟨w.heap.size, 2, none⟩ = some (.int .i64 num) := by rw [Lib.cell_of_heap hx2]; rfl
  have hk2 : Kp (fun k => k = b) w w2 := (Kp.of_below (F := fun k => k = b) ((Below.refl _ w).alloc (Nat.le_refl _) X)).trans (Kp.turned ht2)
  by_cases h0 : to = ⟨#[]⟩
  · subst h0
    have HE : Hid ((⟨fr, ⟨#[]⟩, num⟩ : Chg).app d = without d fr) := by show Chg.app _ d = _; unfold Chg.app; simp
    have HK : Hid (MapAt .string w2 b (dv (without d fr)) ∧ Kp (fun k => k = b) w w2) := ⟨h2, hk2⟩
    rw [HE.out]
    clear h h1 h2 ht2 hs2 hx2 hk2 HE hlt
    subst hX
    go_enter Tryz.func61, Tryz.ntmps61
    go_wp2_with (at_delete; refine wp_delete _ rfl _ _ 99 9 rfl _ _ rfl rfl w2 hr2 ?_)
    go_end0
    exact ⟨rfl, HK.out⟩
  · obtain ⟨w3, hr3, h3, ht3⟩ := dv_store (P := Tryz.prog) (t := 99) (k := 9) (e := 3) h2 Tryz.underlying99 Tryz.underlying9 to num
    have HE : Hid ((⟨fr, to, num⟩ : Chg).app d = with_ (without d fr) to num) := by show Chg.app _ d = _; unfold Chg.app; simp [h0]
    have HK : Hid (MapAt .string w3 b (dv (with_ (without d fr) to num)) ∧ Kp (fun k => k = b) w w3) := ⟨h3, hk2.trans (Kp.turned ht3)⟩
    rw [HE.out]
    have hne : to.toList.isEmpty = false := by
      cases h : to.toList with
      | nil => exact absurd h (empty_no h0)
      | cons _ _ => rfl
    have hne2 := empty_no h0
    clear h h1 h2 ht2 hs2 hx2 hk2 HE hlt h3 ht3 h0
    subst hX
    go_enter Tryz.func61, Tryz.ntmps61
    go_wp2_with (first | (at_delete; refine wp_delete _ rfl _ _ 99 9 rfl _ _ rfl rfl w2 hr2 ?_) | (at_mapUpdate; refine wp_store _ rfl _ _ _ 99 rfl _ _ _ rfl rfl rfl w3 hr3 ?_))
    go_end0
    exact ⟨rfl, HK.out⟩
/-- The volume, its four maps made. -/
structure RN (F : Nat → Prop) (p cap made : Nat) (now d0 : Dr) (cs : List Chg) (T K : List (Nat × Nat)) (bs : List Bd) (w : World) (bd bf bt bk : Nat) (vp : Value) : Prop where
  blk : w.heap[p]? = some (.cells (diskV cap made (.map (some bd)) (.map (some bf)) (.map (some bt)) (.map (some bk)) vp) 103 (0, 0))
  fp : F p
  f1 : F bd
  f2 : F bf
  f3 : F bt
  f4 : F bk
  n1 : bd ≠ bf
  n2 : bd ≠ bt
  n3 : bd ≠ bk
  n4 : bf ≠ bt
  n5 : bf ≠ bk
  n6 : bt ≠ bk
  m1 : MapAt .string w bd (dv now)
  m2 : MapAt .string w bf (dv d0)
  m3 : MapAt (.int .i64) w bt (bv T)
  m4 : MapAt (.int .i64) w bk (bv K)
  row : w.ownsRow 0 137 3 vp cs.length (chgV cs)
  rowF : ∀ k, vp.ownBlock = some k → F k
  bod : Bods F w bs (T ++ K)
section
variable {F : Nat → Prop} {p cap made : Nat} {now d0 : Dr} {cs : List Chg} {T K : List (Nat × Nat)} {bs : List Bd} {w : World} {bd bf bt bk : Nat} {vp : Value}
theorem RN.raw (h : RN F p cap made now d0 cs T K bs w bd bf bt bk vp) : Raw F p cap made now d0 cs T K bs w :=
  ⟨_, _, _, _, vp, h.blk, h.fp, .inr ⟨bd, bf, bt, bk, rfl, rfl, rfl, rfl, h.f1, h.f2, h.f3, h.f4, h.n1, h.n2, h.n3, h.n4, h.n5, h.n6, h.m1, h.m2, h.m3, h.m4⟩, h.row, h.rowF, h.bod, by simp⟩
theorem RN.cells (h : RN F p cap made now d0 cs T K bs w bd bf bt bk vp) : w.cell? ⟨p, 0, none⟩ = some (.int .i64 cap) ∧ w.cell? ⟨p, 1, none⟩ = some (.int .i64 made) ∧ w.cell? ⟨p, 2, none⟩ = some (.map (some bd)) ∧ w.cell? ⟨p, 3, none⟩ = some (.map (some bf)) ∧ w.cell? ⟨p, 4, none⟩ = some (.map (some bt)) ∧ w.cell? ⟨p, 5, none⟩ = some (.map (some bk)) ∧ w.cell? ⟨p, 6, none⟩ = some vp := by
  refine ⟨?_, ?_, ?_, ?_, ?_, ?_, ?_⟩ <;> (rw [Lib.cell_of_heap h.blk]; rfl)
theorem RN.lt (h : RN F p cap made now d0 cs T K bs w bd bf bt bk vp) : p < w.heap.size := blk_lt h.blk
theorem RN.keep {G : Nat → Prop} {w' : World} (h : RN F p cap made now d0 cs T K bs w bd bf bt bk vp) (hk : ∀ k, F k → k < w.heap.size → w'.heap[k]? = w.heap[k]?) (hG : ∀ k, F k → G k) : RN G p cap made now d0 cs T K bs w' bd bf bt bk vp where
  blk := (hk p h.fp h.lt).trans h.blk
  fp := hG _ h.fp
  f1 := hG _ h.f1
  f2 := hG _ h.f2
  f3 := hG _ h.f3
  f4 := hG _ h.f4
  n1 := h.n1
  n2 := h.n2
  n3 := h.n3
  n4 := h.n4
  n5 := h.n5
  n6 := h.n6
  m1 := h.m1.keep (hk _ h.f1 h.m1.lt)
  m2 := h.m2.keep (hk _ h.f2 h.m2.lt)
  m3 := h.m3.keep (hk _ h.f3 h.m3.lt)
  m4 := h.m4.keep (hk _ h.f4 h.m4.lt)
  row := own_keep h.row fun k hk' => hk k (h.rowF k hk') (by obtain ⟨cur, hh⟩ := own_typed h.row hk'; exact blk_lt hh)
  rowF := fun k hk' => hG _ (h.rowF k hk')
  bod := h.bod.keep (fun e he k hk' => by
    rcases hk' with rfl | hk'
    · exact hk _ (h.bod.own e he).1 (h.bod.lt he).1
    · exact hk k ((h.bod.own e he).2 k hk') ((h.bod.lt he).2 k hk')) hG
/-- Blocks of cells and of maps are apart. -/
theorem RN.apart (h : RN F p cap made now d0 cs T K bs w bd bf bt bk vp) {b : Nat} {d : TypeDesc} {l : Prs} (hb : MapAt d w b l) : p ≠ b ∧ (∀ k, vp.ownBlock = some k → k ≠ b) ∧ ∀ e ∈ T ++ K, ∀ k, (k = e.2 ∨ bufOf w e.2 = some k) → k ≠ b := by
  refine ⟨fun e => hb.ne_cells h.blk e.symm, fun k hk => ?_, fun e he k hk => ?_⟩
  · obtain ⟨cur, hh⟩ := own_typed h.row hk; exact fun e => hb.ne_cells hh e.symm
  · obtain ⟨i, x, _, _, hx⟩ := h.bod.at_ e he
    rcases hk with rfl | hk
    · obtain ⟨c, hh⟩ := hx.blk; exact fun e => hb.ne_cells hh e.symm
    · obtain ⟨c, fz, hh⟩ := hx.buf hk; exact fun e => hb.ne_cells hh e.symm
theorem RN.turn {w' : World} {now' d0' : Dr} {T' K' : List (Nat × Nat)} (h : RN F p cap made now d0 cs T K bs w bd bf bt bk vp) {b : Nat} {d : TypeDesc} {l : Prs} (hb : MapAt d w b l) (hk : ∀ k, k < w.heap.size → k ≠ b → w'.heap[k]? = w.heap[k]?)
    (m1 : MapAt .string w' bd (dv now')) (m2 : MapAt .string w' bf (dv d0')) (m3 : MapAt (.int .i64) w' bt (bv T')) (m4 : MapAt (.int .i64) w' bk (bv K')) (hs : ∀ e ∈ T' ++ K', e ∈ T ++ K) : RN F p cap made now' d0' cs T' K' bs w' bd bf bt bk vp := by
  obtain ⟨a1, a2, a3⟩ := h.apart hb
  exact ⟨(hk p h.lt a1).trans h.blk, h.fp, h.f1, h.f2, h.f3, h.f4, h.n1, h.n2, h.n3, h.n4, h.n5, h.n6, m1, m2, m3, m4, own_keep h.row fun k hk' => hk k (by obtain ⟨cur, hh⟩ := own_typed h.row hk'; exact blk_lt hh) (a2 k hk'), h.rowF,
    (h.bod.keep (fun e he k hk' => hk k (by
      rcases hk' with rfl | hk'
      · exact (h.bod.lt he).1
      · exact (h.bod.lt he).2 k hk') (a3 e he k hk')) fun _ h => h).sub hs⟩
end
/-- An append whose answer lies where it lay, or in a new block. -/
theorem info_chg : (Tryz.prog.info? 137).map (fun i => (i.zero, i.size, i.bytes)) = some (some (.agg #[.string ⟨#[]⟩, .string ⟨#[]⟩, .int .i64 0]), 3, 40) := by kernel_rfl
theorem chgV_snoc (cs : List Chg) (c : Chg) : chgV (cs ++ [c]) = chgV cs ++ [.string c.fr, .string c.to, .int .i64 c.num] := by simp [chgV, Chg.vs]
theorem step_app {P : Program} {ops : Array Oper} {o : Oper} {a : Act} {w : World} {K : Act → World → Prop} {Q : Exit → Act → World → Prop} {E : Prop}
    (hg : o.guard = none) (s x : Operand) (t : TypeId) (hop : o.op = Op.call { callee := Callee.builtin Builtin.append, args := #[s, x], argTypes := #[t, t] })
    (base : Nat) (e : TypeId) (i : TypeInfo) (z : Value) (size bytes : Nat) (h1 : P.underlying t = some (.slice e)) (h2 : P.info? e = some i) (h3 : i.zero = some z) (h4 : i.size = size) (h5 : i.bytes = bytes) (h6 : z.cells.size = size) (h7 : 0 < size)
    (v : Value) (n : Nat) (xs : List Value) (hs : a.eval s = v) (hown : w.ownsRow base e size v n xs)
    (ad : Addr) (m c : Nat) (news : List Value) (hx : a.eval x = .slice (some ad) m c) (hn : news.length = m * size) (hc : ∀ j u, news[j]? = some u → w.cell? (ad.add j) = some u) (h1c : ∀ u ∈ news, u.oneCell' = true)
    (b1 : n + m ≤ maxLen) (b2 : (n + m) * bytes ≤ 140737488355328) (hB : base ≤ w.heap.size)
    (hK : ∀ v' w', w'.ownsRow base e size v' (n + m) (xs ++ news) → w.grownBy w' v.ownBlock → (v'.ownBlock = v.ownBlock ∨ v'.ownBlock = some w.heap.size) → K (a.put o.dst v') w') :
    if Region.wanted o (yielded ops a.tmps) = true then Oper.wp P o a w K Q else E := by
  have hw : Region.wanted o (yielded ops a.tmps) = true := by simp [Region.wanted, hg]
  rw [if_pos hw]
  obtain ⟨v', w', hrun, r1, r2, _, r3⟩ := run_append_own_at (P := P) w base t o.type e i z size bytes h1 h2 h3 h4 h5 h6 h7 v n xs hown ad m c news hn hc h1c b1 b2 hB
  unfold Oper.wp
  simp [execOp, hop, resolve, invoke, builtin, hs, hx, hrun, Result.andThen]
  exact hK v' w' r1 r2 r3
theorem three_new (w : World) (a b c : Value) (t : TypeId) {n : Nat} (hn : w.heap.size = n) : ∀ j u, [a, b, c][j]? = some u → (w.alloc (.cells #[a, b, c] t)).cell? ((⟨n, 0, none⟩ : Addr).add j) = some u := by
  subst hn
  intro j u hj
  rw [add_lit0, Lib.cell_of_heap (heap_alloc_new w _)]
  simpa using hj
theorem RN.noted {F : Nat → Prop} {p cap made : Nat} {now d0 : Dr} {cs : List Chg} {T K : List (Nat × Nat)} {bs : List Bd} {w w3 : World} {bd bf bt bk : Nat} {vp v' : Value} {o : Obj} (c : Chg) (h : RN F p cap made now d0 cs T K bs w bd bf bt bk vp)
    (hown : w3.ownsRow 0 137 3 v' (cs.length + 1) (chgV (cs ++ [c]))) (hg : (w.alloc o).grownBy w3 vp.ownBlock) (hv' : v'.ownBlock = vp.ownBlock ∨ v'.ownBlock = some (w.alloc o).heap.size) :
    RN (ext F w (w3.setCell ⟨p, 6, none⟩ v')) p cap made now d0 (cs ++ [c]) T K bs (w3.setCell ⟨p, 6, none⟩ v') bd bf bt bk v' ∧ Kp F w (w3.setCell ⟨p, 6, none⟩ v') := by
  have hs3 : w.heap.size + 1 ≤ w3.heap.size := by have := hg.size; simpa using this
  have hse : (w3.setCell ⟨p, 6, none⟩ v').heap.size = w3.heap.size := by simp [World.setCell]
  have hnp : ∀ k, vp.ownBlock = some k → k ≠ p := fun k hk e => by
    obtain ⟨cur, hh⟩ := own_typed h.row hk
    exact typed_ne hh h.blk (by decide) e
  have hsame : ∀ k, k < w.heap.size → vp.ownBlock ≠ some k → w3.heap[k]? = w.heap[k]? := fun k hk hv => (hg.block k (by simp; omega) (fun e => hv e.symm)).trans (Lib.alloc_old w o k hk)
  have hsame2 : ∀ k, k < w.heap.size → k ≠ p → vp.ownBlock ≠ some k → (w3.setCell ⟨p, 6, none⟩ v').heap[k]? = w.heap[k]? := fun k hk hkp hv => (Below.heap_setCell _ _ _ _ hkp).trans (hsame k hk hv)
  have hp3 : w3.heap[p]? = some (.cells (diskV cap made (.map (some bd)) (.map (some bf)) (.map (some bt)) (.map (some bk)) vp) 103 (0, 0)) := (hsame p h.lt (fun e => hnp p e rfl)).trans h.blk
  have hmk : ∀ {b : Nat} {d : TypeDesc} {l : Prs}, MapAt d w b l → (w3.setCell ⟨p, 6, none⟩ v').heap[b]? = w.heap[b]? := fun {b d l} hb => by
    obtain ⟨a1, a2, _⟩ := h.apart hb
    exact hsame2 b hb.lt (fun e => a1 e.symm) (fun e => a2 b e rfl)
  have hv'p : ∀ k, v'.ownBlock = some k → k ≠ p := fun k hk => by
    obtain ⟨cur, hh⟩ := own_typed hown hk
    exact fun e => typed_ne hh hp3 (by decide) e
  refine ⟨⟨blk_set hp3 v', .inl h.fp, .inl h.f1, .inl h.f2, .inl h.f3, .inl h.f4, h.n1, h.n2, h.n3, h.n4, h.n5, h.n6, h.m1.keep (hmk h.m1), h.m2.keep (hmk h.m2), h.m3.keep (hmk h.m3), h.m4.keep (hmk h.m4), ?_, ?_, h.bod.keep (fun e he k hk => ?_) fun k hk => .inl hk⟩, hg.os, hg.tape, hg.output, by omega, fun k hk hF => hsame2 k hk (fun e => hF (e ▸ h.fp)) (fun e => hF (h.rowF k e))⟩
  · rw [List.length_append]
    exact own_keep hown fun k hk => Below.heap_setCell _ _ _ _ (hv'p k hk)
  · intro k hk
    rcases hv' with e | e
    · exact .inl (h.rowF k (by rw [← e]; exact hk))
    · rw [e] at hk
      have hk' : w.heap.size + 1 = k := by simpa using hk
      have : k < w3.heap.size := by
        obtain ⟨cur, hh⟩ := own_typed hown (show v'.ownBlock = some k by rw [e]; exact hk)
        exact blk_lt hh
      exact .inr ⟨by omega, by omega⟩
  · obtain ⟨i, x, _, _, hx⟩ := h.bod.at_ e he
    rcases hk with rfl | hk
    · obtain ⟨cur, hh⟩ := hx.blk
      refine hsame2 _ (blk_lt hh) (fun e1 => typed_ne hh h.blk (by decide) e1) (fun e1 => ?_)
      obtain ⟨cur', hh'⟩ := own_typed h.row e1
      exact typed_ne hh hh' (by decide) rfl
    · obtain ⟨cur, fz, hh⟩ := hx.buf hk
      refine hsame2 _ (blk_lt hh) (fun e1 => typed_ne hh h.blk (by decide) e1) (fun e1 => ?_)
      obtain ⟨cur', hh'⟩ := own_typed h.row e1
      exact typed_ne hh hh' (by decide) rfl
set_option maxHeartbeats 4000000 in
theorem note_c (c : Chg) (F : Nat → Prop) (p cap made : Nat) (now d0 : Dr) (cs : List Chg) (T K : List (Nat × Nat)) (bs : List Bd) (w : World) (bd bf bt bk : Nat) (vp : Value) (h : RN F p cap made now d0 cs T K bs w bd bf bt bk vp) (hl : cs.length ≤ 2097152) :
    Calls Tryz.prog 72 #[.pointer (some ⟨p, 0, none⟩), .agg #[.string c.fr, .string c.to, .int .i64 c.num]] w fun e w' => e = .returned (.tuple #[]) ∧ Raw (ext F w w') p cap made (c.app now) d0 (cs ++ [c]) T K bs w' ∧ Kp F w w' := by
  obtain ⟨i0, hi, hz0, hz1, hz2⟩ := info_parts info_chg
  obtain ⟨X, hX⟩ : ∃ X, X = Obj.cells #[.string c.fr, .string c.to, .int .i64 c.num] 137 := ⟨_, rfl⟩
  have hbA : Below w.heap.size w (w.alloc X) := (Below.refl _ w).alloc (Nat.le_refl _) X
  have hA : RN F p cap made now d0 cs T K bs (w.alloc X) bd bf bt bk vp := h.keep (fun k _ hk => hbA.block k hk) fun _ h => h
  have HAP : Hid (∀ W, MapAt .string W bd (dv now) → Calls Tryz.prog 61 #[.agg #[.string c.fr, .string c.to, .int .i64 c.num], .map (some bd)] W fun e w' => e = .returned (.tuple #[]) ∧ MapAt .string w' bd (dv (c.app now)) ∧ Kp (fun k => k = bd) W w') := fun W hW => apply_c c bd now W hW
  have HA : Hid (RN F p cap made now d0 cs T K bs (w.alloc X) bd bf bt bk vp) := hA
  have x0 : (w.alloc X).heap[w.heap.size]? = some (.cells #[.string c.fr, .string c.to, .int .i64 c.num] 137) := by rw [heap_alloc_new, hX]
  obtain ⟨c0, c1, c2, c3, c4, c5, c6⟩ := hA.cells
  obtain ⟨fr, to, num⟩ := c
  simp only at HAP x0
  clear h hA hbA
  subst hX
  go_enter Tryz.func72, Tryz.ntmps72
  go_wp2
  go_region_with (go_at_call 61; refine (HAP.out _ (by exact HA.out.m1)).mono ?_; rintro e w2 ⟨rfl, hm2, hk2⟩)
  all_goals
    have hkp2 : ∀ k, k < (w.alloc (.cells #[.string fr, .string to, .int .i64 num] 137)).heap.size → k ≠ bd → w2.heap[k]? = (w.alloc (.cells #[.string fr, .string to, .int .i64 num] 137)).heap[k]? := fun k hk hne => hk2.block k hk hne
    have hsA : (w.alloc (.cells #[.string fr, .string to, .int .i64 num] 137)).heap.size = w.heap.size + 1 := by simp
    have hbk : bd ≠ w.heap.size := fun e => by
      obtain ⟨_, _, hh, _⟩ := HA.out.m1
      rw [e, x0] at hh; cases hh
    have x2 : w2.heap[w.heap.size]? = some (.cells #[.string fr, .string to, .int .i64 num] 137) := (hkp2 _ (by omega) hbk.symm).trans x0
    have R2 : RN F p cap made ((⟨fr, to, num⟩ : Chg).app now) d0 cs T K bs w2 bd bf bt bk vp := HA.out.turn HA.out.m1 hkp2 hm2 (HA.out.m2.keep (hkp2 _ HA.out.m2.lt HA.out.n1.symm)) (HA.out.m3.keep (hkp2 _ HA.out.m3.lt HA.out.n2.symm)) (HA.out.m4.keep (hkp2 _ HA.out.m4.lt HA.out.n3.symm)) fun _ h => h
    have HKA : Hid (Kp F w w2) := by
      refine ⟨hk2.os, hk2.tape, hk2.output, Nat.le_trans (by simp) hk2.size, fun k hk hF => ?_⟩
      exact (hkp2 k (by omega) (fun e => hF (e ▸ HA.out.f1))).trans (Lib.alloc_old w _ k hk)
    have H2 : Hid (RN F p cap made ((⟨fr, to, num⟩ : Chg).app now) d0 cs T K bs w2 bd bf bt bk vp) := R2
    obtain ⟨e0, e1, e2, e3, e4, e5, e6⟩ := R2.cells
    have y0 : w2.cell? ⟨w.heap.size, 0, none⟩ = some (.string fr) := by rw [Lib.cell_of_heap x2]; rfl
    have y1 : w2.cell? ⟨w.heap.size, 1, none⟩ = some (.string to) := by rw [Lib.cell_of_heap x2]; rfl
    have y2 : w2.cell? ⟨w.heap.size, 2, none⟩ = some (.int .i64 num) := by rw [Lib.cell_of_heap x2]; rfl
    have hlt2 := R2.lt
    have HP : Hid (some p ≠ vp.ownBlock) := fun e => by
      obtain ⟨cur, hc⟩ := own_typed H2.out.row e.symm
      exact typed_ne H2.out.blk hc (by decide) rfl
    clear R2 hkp2 hsA hbk hk2 hm2 HAP HA c0 c1 c2 c3 c4 c5 c6 x0 e0 e1 e2 e3 e4 e5
    go_wp2
    go_region_law (refine step_app rfl (.tmp 14) (.tmp 16) 101 rfl 0 137 i0 (.agg #[.string ⟨#[]⟩, .string ⟨#[]⟩, .int .i64 0]) 3 40 Tryz.underlying101 hi hz0 hz1 hz2 rfl (by decide) vp cs.length (chgV cs) (by simp [Act.eval]) (by exact H2.out.row.alloc _) ⟨w2.heap.size, 0, none⟩ 1 1 [.string fr, .string to, .int .i64 num] (by simp [Act.eval]) rfl (three_new _ _ _ _ _ rfl) (by intro u hu; simp at hu; rcases hu with rfl | rfl | rfl <;> rfl) (by unfold maxLen; omega) (by omega) (Nat.zero_le _) ?_; intro v' w3 hown' hgrow hwh; obtain ⟨ao2, cap2, rfl⟩ := own_shape hown'; have hb2 : w3.heap[p]? = some (.cells (diskV cap made (.map (some bd)) (.map (some bf)) (.map (some bt)) (.map (some bk)) vp) 103 (0, 0)) := ((hgrow.block p (by simp; omega) HP.out).trans (Lib.alloc_old _ _ p hlt2)).trans H2.out.blk; have d6 : w3.cell? ⟨p, 6, none⟩ = some vp := (by rw [Lib.cell_of_heap hb2]; rfl); have f6 := Lib.frozen_of_heap hb2 6)
    all_goals
      have R3 := RN.noted (o := .cells #[.string fr, .string to, .int .i64 num] 137) ⟨fr, to, num⟩ H2.out (by rw [chgV_snoc]; exact hown') ⟨hgrow.os, hgrow.tape, hgrow.output, hgrow.size, hgrow.block⟩ hwh
      have HR : Hid (Raw (ext F w (w3.setCell ⟨p, 6, none⟩ (.slice ao2 (cs.length + 1) cap2))) p cap made ((⟨fr, to, num⟩ : Chg).app now) d0 (cs ++ [⟨fr, to, num⟩]) T K bs (w3.setCell ⟨p, 6, none⟩ (.slice ao2 (cs.length + 1) cap2)) ∧ Kp F w (w3.setCell ⟨p, 6, none⟩ (.slice ao2 (cs.length + 1) cap2))) := by
        refine ⟨R3.1.raw.keep (fun _ _ _ => rfl) (fun k hk => ?_), HKA.out.trans R3.2⟩
        have := HKA.out.size
        rcases hk with hk | hk
        · exact .inl hk
        · exact .inr ⟨by omega, by omega⟩
      clear R3 hgrow hown' hwh hb2
      go_wp2
      go_end0
      exact ⟨rfl, HR.out⟩
end Go.Proofs.YtjbphheojfclcaaGreat

-- The program's helpers: maps made, a body given up.
namespace Go.Proofs.YtjbphheojfclcaaGreat
open Go.RowKit
set_option linter.unusedVariables false
theorem neq_nil (w : World) : (binOp .neq 99 (.map none) (.map none)).run Tryz.prog w = .ok (.bool false) w := by kernel_rfl
theorem neq_some (b : Nat) (w : World) : (binOp .neq 99 (.map (some b)) (.map none)).run Tryz.prog w = .ok (.bool true) w := by kernel_rfl
/-- A new map into a field. -/
def mkMap (w : World) (p i : Nat) : World := (w.alloc (.map #[] 0)).setCell ⟨p, i, none⟩ (.map (some w.heap.size))
theorem mk_size (w : World) (p i : Nat) : (mkMap w p i).heap.size = w.heap.size + 1 := by simp [mkMap, World.setCell]
theorem mk_os (w : World) (p i : Nat) : (mkMap w p i).os = w.os ∧ (mkMap w p i).tape = w.tape ∧ (mkMap w p i).output = w.output := ⟨rfl, rfl, rfl⟩
theorem mk_old (w : World) (p i k : Nat) (hk : k < w.heap.size) (hp : k ≠ p) : (mkMap w p i).heap[k]? = w.heap[k]? := (Below.heap_setCell _ _ _ _ hp).trans (Lib.alloc_old w _ k hk)
theorem mk_new (w : World) (p i : Nat) (hp : p < w.heap.size) : (mkMap w p i).heap[w.heap.size]? = some (.map #[] 0) := (Below.heap_setCell _ _ _ _ (by show w.heap.size ≠ p; omega)).trans (heap_alloc_new w _)
theorem mk_p {w : World} {p : Nat} (i : Nat) {c : Array Value} {t : TypeId} {fr : Nat × Nat} (h : w.heap[p]? = some (.cells c t fr)) : (mkMap w p i).heap[p]? = some (.cells (c.setIfInBounds i (.map (some w.heap.size))) t fr) := blk_set ((Lib.alloc_old w _ p (blk_lt h)).trans h) _
theorem mk_step {w : World} {p cap made : Nat} {v2 v3 v4 v5 vp : Value} (i : Nat) (hi : 2 ≤ i ∧ i ≤ 5) (hp : w.heap[p]? = some (.cells (diskV cap made v2 v3 v4 v5 vp) 103 (0, 0))) :
    (w.alloc (.map #[] 0)).cell? ⟨p, i, none⟩ = (diskV cap made v2 v3 v4 v5 vp)[i]? ∧ (w.alloc (.map #[] 0)).frozen? ⟨p, i, none⟩ = false := by
  have h : (w.alloc (.map #[] 0)).heap[p]? = _ := (Lib.alloc_old w _ p (blk_lt hp)).trans hp
  exact ⟨Lib.cell_of_heap h i, Lib.frozen_of_heap h i⟩
theorem mk_d {w : World} {p cap made : Nat} {v2 v3 v4 v5 vp : Value} (hp : w.heap[p]? = some (.cells (diskV cap made v2 v3 v4 v5 vp) 103 (0, 0))) :
    (mkMap w p 2).heap[p]? = some (.cells (diskV cap made (.map (some w.heap.size)) v3 v4 v5 vp) 103 (0, 0)) ∧ (mkMap w p 3).heap[p]? = some (.cells (diskV cap made v2 (.map (some w.heap.size)) v4 v5 vp) 103 (0, 0)) ∧
    (mkMap w p 4).heap[p]? = some (.cells (diskV cap made v2 v3 (.map (some w.heap.size)) v5 vp) 103 (0, 0)) ∧ (mkMap w p 5).heap[p]? = some (.cells (diskV cap made v2 v3 v4 (.map (some w.heap.size)) vp) 103 (0, 0)) :=
  ⟨mk_p 2 hp, mk_p 3 hp, mk_p 4 hp, mk_p 5 hp⟩
theorem em {d : TypeDesc} {W : World} {b : Nat} (hb : W.heap[b]? = some (.map #[] 0)) : MapAt d W b [] := ⟨#[], 0, hb, MapKept.stamped_empty 0, by simp, by simp⟩
theorem mk_rn {F : Nat → Prop} {p cap made : Nat} {bs : List Bd} {w W1 W2 W3 W4 : World} {c : Array Value} {vp : Value} (hF : F p) (ho : w.ownsRow 0 137 3 vp 0 []) (hoF : ∀ k, vp.ownBlock = some k → F k) (hp : w.heap[p]? = some (.cells c 103 (0, 0)))
    (e1 : W1 = mkMap w p 2) (e2 : W2 = mkMap W1 p 3) (e3 : W3 = mkMap W2 p 4) (e4 : W4 = mkMap W3 p 5) (p4 : W4.heap[p]? = some (.cells (diskV cap made (.map (some w.heap.size)) (.map (some W1.heap.size)) (.map (some W2.heap.size)) (.map (some W3.heap.size)) vp) 103 (0, 0))) :
    (∃ bd bf bt bk vp, RN (ext F w W4) p cap made [] [] [] [] [] bs W4 bd bf bt bk vp) ∧ Kp F w W4 := by
  have hpl := blk_lt hp
  have s1 := mk_size w p 2
  have s2 := mk_size W1 p 3
  have s3 := mk_size W2 p 4
  have s4 := mk_size W3 p 5
  rw [← e1] at s1
  rw [← e2] at s2
  rw [← e3] at s3
  rw [← e4] at s4
  have o1 : ∀ k, k < w.heap.size → k ≠ p → W1.heap[k]? = w.heap[k]? := fun k hk hkp => by rw [e1]; exact mk_old _ _ _ _ hk hkp
  have o2 : ∀ k, k < W1.heap.size → k ≠ p → W2.heap[k]? = W1.heap[k]? := fun k hk hkp => by rw [e2]; exact mk_old _ _ _ _ hk hkp
  have o3 : ∀ k, k < W2.heap.size → k ≠ p → W3.heap[k]? = W2.heap[k]? := fun k hk hkp => by rw [e3]; exact mk_old _ _ _ _ hk hkp
  have o4 : ∀ k, k < W3.heap.size → k ≠ p → W4.heap[k]? = W3.heap[k]? := fun k hk hkp => by rw [e4]; exact mk_old _ _ _ _ hk hkp
  have n1 : W1.heap[w.heap.size]? = some (.map #[] 0) := by rw [e1]; exact mk_new w p 2 hpl
  have n2 : W2.heap[W1.heap.size]? = some (.map #[] 0) := by rw [e2]; exact mk_new W1 p 3 (by omega)
  have n3 : W3.heap[W2.heap.size]? = some (.map #[] 0) := by rw [e3]; exact mk_new W2 p 4 (by omega)
  have n4 : W4.heap[W3.heap.size]? = some (.map #[] 0) := by rw [e4]; exact mk_new W3 p 5 (by omega)
  have k3 : W4.heap[W2.heap.size]? = some (.map #[] 0) := by rw [o4 _ (by omega) (by omega), n3]
  have k2 : W4.heap[W1.heap.size]? = some (.map #[] 0) := by rw [o4 _ (by omega) (by omega), o3 _ (by omega) (by omega), n2]
  have k1 : W4.heap[w.heap.size]? = some (.map #[] 0) := by rw [o4 _ (by omega) (by omega), o3 _ (by omega) (by omega), o2 _ (by omega) (by omega), n1]
  have old : ∀ k, k < w.heap.size → k ≠ p → W4.heap[k]? = w.heap[k]? := fun k hk hkp => by rw [o4 _ (by omega) hkp, o3 _ (by omega) hkp, o2 _ (by omega) hkp, o1 _ hk hkp]
  have hos : W4.os = w.os ∧ W4.tape = w.tape ∧ W4.output = w.output := by
    obtain ⟨a1, a2, a3⟩ := mk_os W3 p 5
    obtain ⟨b1, b2, b3⟩ := mk_os W2 p 4
    obtain ⟨c1, c2, c3⟩ := mk_os W1 p 3
    obtain ⟨d1, d2, d3⟩ := mk_os w p 2
    rw [← e4] at a1 a2 a3
    rw [← e3] at b1 b2 b3
    rw [← e2] at c1 c2 c3
    rw [← e1] at d1 d2 d3
    exact ⟨a1.trans (b1.trans (c1.trans d1)), a2.trans (b2.trans (c2.trans d2)), a3.trans (b3.trans (c3.trans d3))⟩
  have hro : W4.ownsRow 0 137 3 vp 0 [] := own_keep ho fun k hk => by
    obtain ⟨cur, hh⟩ := own_typed ho hk
    exact old k (blk_lt hh) (fun e => typed_ne hh hp (by decide) e)
  obtain ⟨q1, hq1⟩ : ∃ q, q = w.heap.size := ⟨_, rfl⟩
  obtain ⟨q2, hq2⟩ : ∃ q, q = W1.heap.size := ⟨_, rfl⟩
  obtain ⟨q3, hq3⟩ : ∃ q, q = W2.heap.size := ⟨_, rfl⟩
  obtain ⟨q4, hq4⟩ : ∃ q, q = W3.heap.size := ⟨_, rfl⟩
  have hE : ∀ k, q1 ≤ k → k ≤ q4 → ext F w W4 k := fun k h1 h2 => .inr ⟨by omega, by omega⟩
  rw [← hq1, ← hq2, ← hq3, ← hq4] at p4
  rw [← hq1] at k1
  rw [← hq2] at k2
  rw [← hq3] at k3
  rw [← hq4] at n4
  have b1 : q1 + 1 = q2 := by omega
  have b2 : q2 + 1 = q3 := by omega
  have b3 : q3 + 1 = q4 := by omega
  refine ⟨⟨q1, q2, q3, q4, vp, ?_⟩, hos.1, hos.2.1, hos.2.2, by omega, fun k hk hFk => old k hk (fun e => hFk (e ▸ hF))⟩
  clear hq1 hq2 hq3 hq4 o1 o2 o3 o4 s1 s2 s3 s4 e1 e2 e3 e4 n1 n2 n3
  exact ⟨p4, .inl hF, hE _ (by omega) (by omega), hE _ (by omega) (by omega), hE _ (by omega) (by omega), hE _ (by omega) (by omega), by omega, by omega, by omega, by omega, by omega, by omega, em k1, em k2, em k3, em n4, hro, fun k hk => .inl (hoF k hk), ⟨by simp, by simp, by simp, by simp⟩⟩
theorem mk_run (t : TypeId) (w : World) : (Instr.makeMap t none).run Tryz.prog w = .ok (.map (some w.heap.size)) (w.alloc (.map #[] 0)) := rfl
set_option maxHeartbeats 4000000 in
theorem makeMaps_c (F : Nat → Prop) (p cap made : Nat) (now d0 : Dr) (cs : List Chg) (T K : List (Nat × Nat)) (bs : List Bd) (w : World) (h : Raw F p cap made now d0 cs T K bs w) :
    Calls Tryz.prog 70 #[.pointer (some ⟨p, 0, none⟩)] w fun e w' => e = .returned (.tuple #[]) ∧ (∃ bd bf bt bk vp, RN (ext F w w') p cap made now d0 cs T K bs w' bd bf bt bk vp) ∧ Kp F w w' := by
  obtain ⟨vd, vs, vt, vk, vp, hp, hF, hm, ho, hoF, hb, hn⟩ := h
  rcases hm with ⟨rfl, rfl, rfl, rfl, rfl, rfl, rfl, h8⟩ | ⟨bd, bf, bt, bk, rfl, rfl, rfl, rfl, f1, f2, f3, f4, n1, n2, n3, n4, n5, n6, m1, m2, m3, m4⟩
  · obtain rfl := hn rfl
    have hq := neq_nil w
    have c2 : w.cell? ⟨p, 2, none⟩ = some (.map none) := by rw [Lib.cell_of_heap hp]; rfl
    have hpl := blk_lt hp
    obtain ⟨q1, hq1⟩ : ∃ q, q = w.heap.size := ⟨_, rfl⟩
    -- the four steps
    have p1 := (mk_d hp).1
    have p2 := (mk_d p1).2.1
    have p3 := (mk_d p2).2.2.1
    have p4 := (mk_d p3).2.2.2
    have s1 := mk_size w p 2
    have s2 := mk_size (mkMap w p 2) p 3
    have s3 := mk_size (mkMap (mkMap w p 2) p 3) p 4
    have s4 := mk_size (mkMap (mkMap (mkMap w p 2) p 3) p 4) p 5
    have HR : Hid ((∃ bd bf bt bk vp, RN (ext F w (mkMap (mkMap (mkMap (mkMap w p 2) p 3) p 4) p 5)) p cap made [] [] [] [] [] bs (mkMap (mkMap (mkMap (mkMap w p 2) p 3) p 4) p 5) bd bf bt bk vp) ∧ Kp F w (mkMap (mkMap (mkMap (mkMap w p 2) p 3) p 4) p 5)) :=
      mk_rn hF ho hoF hp rfl rfl rfl rfl p4
    have g2 := mk_step 2 ⟨by omega, by omega⟩ hp
    have g3 := mk_step 3 ⟨by omega, by omega⟩ p1
    have g4 := mk_step 4 ⟨by omega, by omega⟩ p2
    have g5 := mk_step 5 ⟨by omega, by omega⟩ p3
    have r1 := mk_run 99 w
    have r2 := mk_run 99 (mkMap w p 2)
    have r3 := mk_run 100 (mkMap (mkMap w p 2) p 3)
    have r4 := mk_run 100 (mkMap (mkMap (mkMap w p 2) p 3) p 4)
    obtain ⟨W4, hW4⟩ : ∃ W, W = mkMap (mkMap (mkMap (mkMap w p 2) p 3) p 4) p 5 := ⟨_, rfl⟩
    have t4 : ((mkMap (mkMap (mkMap w p 2) p 3) p 4).alloc (.map #[] 0)).setCell ⟨p, 5, none⟩ (.map (some (mkMap (mkMap (mkMap w p 2) p 3) p 4).heap.size)) = W4 := hW4.symm
    rw [← hW4] at HR
    clear hW4 p4 s4
    obtain ⟨W3, hW3⟩ : ∃ W, W = mkMap (mkMap (mkMap w p 2) p 3) p 4 := ⟨_, rfl⟩
    have t3 : ((mkMap (mkMap w p 2) p 3).alloc (.map #[] 0)).setCell ⟨p, 4, none⟩ (.map (some (mkMap (mkMap w p 2) p 3).heap.size)) = W3 := hW3.symm
    rw [← hW3] at t4 g5 r4
    clear hW3 p3 s3
    obtain ⟨W2, hW2⟩ : ∃ W, W = mkMap (mkMap w p 2) p 3 := ⟨_, rfl⟩
    have t2 : ((mkMap w p 2).alloc (.map #[] 0)).setCell ⟨p, 3, none⟩ (.map (some (mkMap w p 2).heap.size)) = W2 := hW2.symm
    rw [← hW2] at t3 g4 g5 r3
    clear hW2 p2 s2
    obtain ⟨W1, hW1⟩ : ∃ W, W = mkMap w p 2 := ⟨_, rfl⟩
    have t1 : (w.alloc (.map #[] 0)).setCell ⟨p, 2, none⟩ (.map (some w.heap.size)) = W1 := hW1.symm
    rw [← hW1] at t2 g3 g4 g5 r2
    clear hW1 p1 s1
    simp only [diskV, List.getElem?_toArray, List.getElem?_cons_succ, List.getElem?_cons_zero] at g2 g3 g4 g5
    obtain ⟨a2, z2⟩ := g2
    obtain ⟨a3, z3⟩ := g3
    obtain ⟨a4, z4⟩ := g4
    obtain ⟨a5, z5⟩ := g5
    obtain ⟨u1, hu1⟩ : ∃ u, u = w.alloc (.map #[] 0) := ⟨_, rfl⟩
    obtain ⟨u2, hu2⟩ : ∃ u, u = W1.alloc (.map #[] 0) := ⟨_, rfl⟩
    obtain ⟨u3, hu3⟩ : ∃ u, u = W2.alloc (.map #[] 0) := ⟨_, rfl⟩
    obtain ⟨u4, hu4⟩ : ∃ u, u = W3.alloc (.map #[] 0) := ⟨_, rfl⟩
    rw [← hu1] at t1 a2 z2 r1
    rw [← hu2] at t2 a3 z3 r2
    rw [← hu3] at t3 a4 z4 r3
    rw [← hu4] at t4 a5 z5 r4
    obtain ⟨q2, hq2⟩ : ∃ q, q = W1.heap.size := ⟨_, rfl⟩
    obtain ⟨q3, hq3⟩ : ∃ q, q = W2.heap.size := ⟨_, rfl⟩
    obtain ⟨q4, hq4⟩ : ∃ q, q = W3.heap.size := ⟨_, rfl⟩
    rw [← hq1] at t1 r1
    rw [← hq2] at t2 r2
    rw [← hq3] at t3 r3
    rw [← hq4] at t4 r4
    clear hp ho hoF hb hn h8 hu1 hu2 hu3 hu4 hq1 hq2 hq3 hq4 hpl
    go_enter Tryz.func70, Tryz.ntmps70
    go_wp2
    go_end0
    exact ⟨rfl, HR.out⟩
  · have hq := neq_some bd w
    have c2 : w.cell? ⟨p, 2, none⟩ = some (.map (some bd)) := by rw [Lib.cell_of_heap hp]; rfl
    have HR : Hid (∃ bd bf bt bk vp, RN (ext F w w) p cap made now d0 cs T K bs w bd bf bt bk vp) := ⟨bd, bf, bt, bk, vp, (⟨hp, hF, f1, f2, f3, f4, n1, n2, n3, n4, n5, n6, m1, m2, m3, m4, ho, hoF, hb⟩ : RN F p cap made now d0 cs T K bs w bd bf bt bk vp).keep (fun _ _ _ => rfl) fun k hk => .inl hk⟩
    clear hp ho hoF hb hn m1 m2 m3 m4
    go_enter Tryz.func70, Tryz.ntmps70
    go_wp2
    refine bodyPost_ret (results_none rfl _ _ _) rfl ?_
    exact ⟨rfl, HR.out, Kp.refl _ _⟩
end Go.Proofs.YtjbphheojfclcaaGreat

-- The program's helpers: a body given up.
namespace Go.Proofs.YtjbphheojfclcaaGreat
open Go.RowKit
set_option linter.unusedVariables false
theorem zeroP (w : World) : (zeroValue 106).run Tryz.prog w = .ok (.pointer none) w := Tryz.zeroValue106 w
theorem bv_look (c : Bool) {w : World} {b : Nat} {l : List (Nat × Nat)} (h : MapAt (.int .i64) w b (bv l)) {n x : Nat} (hx : (n, x) ∈ l) :
    (Instr.lookup 100 (.map (some b)) (.int .i64 n) c).run Tryz.prog w = .ok (if c then .tuple #[.pointer (some ⟨x, 0, none⟩), .bool true] else .pointer (some ⟨x, 0, none⟩)) w :=
  h.look c Tryz.underlying100 Tryz.underlying3 (key_i n) (bv_mem hx)
theorem bv_look_no (c : Bool) {w : World} {b : Nat} {l : List (Nat × Nat)} (h : MapAt (.int .i64) w b (bv l)) {n : Int} (hx : ∀ e ∈ l, (e.1 : Int) ≠ n) :
    (Instr.lookup 100 (.map (some b)) (.int .i64 n) c).run Tryz.prog w = .ok (if c then .tuple #[.pointer none, .bool false] else .pointer none) w :=
  h.look_no c Tryz.underlying100 Tryz.underlying3 (key_i n) (bv_no hx) (zeroP w)
theorem sv_look (c : Bool) {w : World} {b : Nat} {d : Dr} (h : MapAt .string w b (dv d)) (hp : ∀ e ∈ d, 1 ≤ e.2) (n : ByteArray) :
    (Instr.lookup 99 (.map (some b)) (.string n) c).run Tryz.prog w = .ok (if c then .tuple #[.int .i64 (leads d n), .bool (decide (leads d n ≠ 0))] else .int .i64 (leads d n)) w :=
  dv_look c h hp Tryz.underlying99 Tryz.underlying9 (zero3 w) n
set_option maxHeartbeats 4000000 in
theorem giveUp_no (name : ByteArray) (F : Nat → Prop) (p cap made : Nat) (now d0 : Dr) (cs : List Chg) (T K : List (Nat × Nat)) (bs : List Bd) (w : World) (bd bf bt bk : Nat) (vp : Value) (h : RN F p cap made now d0 cs T K bs w bd bf bt bk vp) (hp1 : ∀ e ∈ now, 1 ≤ e.2) (h0 : leads now name = 0) :
    Calls Tryz.prog 71 #[.pointer (some ⟨p, 0, none⟩), .string name] w fun e w' => e = .returned (.tuple #[]) ∧ w' = w := by
  obtain ⟨c0, c1, c2, c3, c4, c5, c6⟩ := h.cells
  have hl := sv_look true h.m1 hp1 name
  rw [h0] at hl
  simp only [if_true] at hl
  have b0 : decide ((0 : Nat) ≠ 0) = false := by decide
  rw [b0] at hl
  clear h hp1 h0 b0 c0 c1 c3 c4 c5 c6
  go_enter Tryz.func71, Tryz.ntmps71
  go_wp2_with (at_lookup; refine wp_look _ rfl _ _ 99 true rfl _ _ _ rfl rfl hl ?_)
  refine bodyPost_ret (results_none rfl _ _ _) rfl ?_
  exact ⟨rfl, rfl⟩
set_option maxHeartbeats 4000000 in
theorem giveUp_c (name : ByteArray) (n x : Nat) (T0 : List (Nat × Nat)) (F : Nat → Prop) (p cap made : Nat) (now d0 : Dr) (cs : List Chg) (T K : List (Nat × Nat)) (bs : List Bd) (w : World) (bd bf bt bk : Nat) (vp : Value) (h : RN F p cap made now d0 cs T K bs w bd bf bt bk vp) (hp1 : ∀ e ∈ now, 1 ≤ e.2) (hn : leads now name = n) (hn0 : n ≠ 0) (hT : T.Perm ((n, x) :: T0)) (hK : ∀ e ∈ K, e.1 ≠ n) :
    Calls Tryz.prog 71 #[.pointer (some ⟨p, 0, none⟩), .string name] w fun e w' => e = .returned (.tuple #[]) ∧ RN F p cap made now d0 cs T0 ((n, x) :: K) bs w' bd bf bt bk vp ∧ Kp F w w' := by
  obtain ⟨c0, c1, c2, c3, c4, c5, c6⟩ := h.cells
  have hl := sv_look true h.m1 hp1 name
  rw [hn] at hl
  simp only [if_true] at hl
  rw [decide_eq_true hn0] at hl
  have hx : (n, x) ∈ T := hT.mem_iff.2 (by simp)
  have hl2 := bv_look false (w := w.drew) h.m3 hx
  obtain ⟨w2, hr2, h2, ht2⟩ := MapAt.store_new (P := Tryz.prog) (w := w.drew) (t := 100) (k := 3) (e := 106) h.m4 Tryz.underlying100 Tryz.underlying3 (key_i n) (bv_no fun e he => by have := hK e he; omega) (.pointer (some ⟨x, 0, none⟩))
  have m3' : MapAt (.int .i64) w2 bt (bv T) := h.m3.keep (ht2.other h.n6)
  obtain ⟨w3, hr3, h3, ht3⟩ := m3'.drop (P := Tryz.prog) (t := 100) (k := 3) (e := 106) Tryz.underlying100 Tryz.underlying3 (key_i n) (v := .pointer (some ⟨x, 0, none⟩)) (l0 := bv T0) (hT.map _) 0
  have e4 : w2.cell? ⟨p, 4, none⟩ = some (.map (some bt)) := by
    rw [Lib.cell_of_heap ((ht2.other (h.apart h.m4).1).trans h.blk)]; rfl
  have HR : Hid (RN F p cap made now d0 cs T0 ((n, x) :: K) bs w3 bd bf bt bk vp ∧ Kp F w w3) := by
    have R2 : RN F p cap made now d0 cs T ((n, x) :: K) bs w2 bd bf bt bk vp := h.turn h.m4 (fun k _ hk => ht2.other hk) (h.m1.keep (ht2.other h.n3)) (h.m2.keep (ht2.other h.n5)) m3' h2 (fun e he => by
      simp only [List.mem_append, List.mem_cons] at he ⊢
      rcases he with he | rfl | he
      · exact .inl he
      · exact .inl hx
      · exact .inr he)
    have R3 : RN F p cap made now d0 cs T0 ((n, x) :: K) bs w3 bd bf bt bk vp := R2.turn m3' (fun k _ hk => ht3.other hk) (R2.m1.keep (ht3.other h.n2)) (R2.m2.keep (ht3.other h.n4)) h3 (R2.m4.keep (ht3.other h.n6.symm)) (fun e he => by
      simp only [List.mem_append, List.mem_cons] at he ⊢
      rcases he with he | he
      · exact .inl (hT.mem_iff.2 (List.mem_cons_of_mem _ he))
      · exact .inr he)
    have k2 : Kp F w w2 := ⟨ht2.os.1, ht2.os.2.1, ht2.os.2.2, Nat.le_of_eq ht2.size.symm, fun k _ hk => ht2.other (fun e => hk (e ▸ h.f4))⟩
    exact ⟨R3, k2.trans (ht3.kp h.f3)⟩
  clear h hp1 hn hn0 hT hK c0 c1 c3 c6 h2 ht2 m3' h3 ht3 hx
  go_enter Tryz.func71, Tryz.ntmps71
  go_wp2_with (at_lookup; refine wp_look _ rfl _ _ 99 true rfl _ _ _ rfl rfl hl ?_)
  go_region
  all_goals
    go_wp2_with (at_delete; refine wp_delete _ rfl _ _ 100 3 rfl _ _ rfl rfl w3 hr3 ?_)
    go_end0
    exact ⟨rfl, HR.out⟩
end Go.Proofs.YtjbphheojfclcaaGreat

-- settle: the first changes made durable, the others forgotten.
namespace Go.Proofs.YtjbphheojfclcaaGreat
open Go.RowKit
set_option linter.unusedVariables false
/-- The list of changes is emptied. -/
theorem Raw.emptied {F : Nat → Prop} {p cap made : Nat} {now d0 : Dr} {cs : List Chg} {T K : List (Nat × Nat)} {bs : List Bd} {w : World} (h : Raw F p cap made now d0 cs T K bs w) :
    Raw F p cap made now d0 [] T K bs (w.setCell ⟨p, 6, none⟩ (.slice none 0 0)) ∧ Kp F w (w.setCell ⟨p, 6, none⟩ (.slice none 0 0)) := by
  obtain ⟨vd, vs, vt, vk, vp, hp, hF, hm, ho, hoF, hb, hn⟩ := h
  have other : ∀ k, k ≠ p → (w.setCell ⟨p, 6, none⟩ (.slice none 0 0)).heap[k]? = w.heap[k]? := fun k hk => Below.heap_setCell _ _ _ _ hk
  refine ⟨⟨vd, vs, vt, vk, .slice none 0 0, blk_set hp _, hF, hm.keep (fun v hv b hb' => other b (hm.ne_cells hv hb' hp)) fun _ h => h, World.ownsRow_nil _ _ _ _, fun k hk => by simp [Value.ownBlock] at hk, hb.keep (fun e he k hk => other k ?_) fun _ h => h, fun _ => rfl⟩, rfl, rfl, rfl, by simp [World.setCell], fun k _ hk => other k (fun e => hk (e ▸ hF))⟩
  obtain ⟨i, x, _, _, hx⟩ := hb.at_ e he
  rcases hk with rfl | hk
  · obtain ⟨cur, hh⟩ := hx.blk
    exact fun e1 => typed_ne hh hp (by decide) e1
  · obtain ⟨cur, fz, hh⟩ := hx.buf hk
    exact fun e1 => typed_ne hh hp (by decide) e1
theorem Raw.p6 {F : Nat → Prop} {p cap made : Nat} {now d0 : Dr} {cs : List Chg} {T K : List (Nat × Nat)} {bs : List Bd} {w : World} (h : Raw F p cap made now d0 cs T K bs w) : ∃ ao cp, w.cell? ⟨p, 6, none⟩ = some (.slice ao cs.length cp) ∧ cs.length ≤ cp ∧ cp ≤ maxLen ∧ w.frozen? ⟨p, 6, none⟩ = false := by
  obtain ⟨vd, vs, vt, vk, vp, hp, hF, hm, ho, hoF, hb, hn⟩ := h
  rcases ho.2 with ⟨rfl, h0⟩ | ⟨g, cap', cur, rfl, hg, hh, h1, h2, r⟩
  · exact ⟨none, 0, by rw [Lib.cell_of_heap hp, h0]; rfl, by omega, by unfold maxLen; omega, Lib.frozen_of_heap hp 6⟩
  · exact ⟨_, _, by rw [Lib.cell_of_heap hp]; rfl, h1, h2, Lib.frozen_of_heap hp 6⟩
set_option maxHeartbeats 4000000 in
theorem settle_zero (F : Nat → Prop) (p cap made : Nat) (now d0 : Dr) (cs : List Chg) (T K : List (Nat × Nat)) (bs : List Bd) (w : World) (h : Raw F p cap made now d0 cs T K bs w) :
    Calls Tryz.prog 43 #[.pointer (some ⟨p, 0, none⟩), .int .i64 0] w fun e w' => e = .returned (.tuple #[]) ∧ Raw (ext F w w') p cap made now d0 [] T K bs w' ∧ Kp F w w' := by
  obtain ⟨ao, cp, c6, hcl, hcm, f6⟩ := h.p6
  have HR : Hid (Raw (ext F w (w.setCell ⟨p, 6, none⟩ (.slice none 0 0))) p cap made now d0 [] T K bs (w.setCell ⟨p, 6, none⟩ (.slice none 0 0)) ∧ Kp F w (w.setCell ⟨p, 6, none⟩ (.slice none 0 0))) := ⟨h.emptied.1.keep (fun _ _ _ => rfl) fun k hk => .inl hk, h.emptied.2⟩
  obtain ⟨n, hn⟩ : ∃ n, n = cs.length := ⟨_, rfl⟩
  rw [← hn] at c6 hcl
  clear h hn
  unfold maxLen at hcm
  have i1 : (0 : Int) ≤ (cp : Int) := by omega
  go_enter Tryz.func43, Tryz.ntmps43
  go_wp2
  refine wp_loop_rounds 1 ?_
  rw [rounds_succ]
  go_wp2
  go_end0
  exact ⟨rfl, HR.out⟩
theorem chg_at (cs : List Chg) (k : Nat) (c : Chg) (h : cs[k]? = some c) : (chgV cs)[k * 3]? = some (.string c.fr) ∧ (chgV cs)[k * 3 + 1]? = some (.string c.to) ∧ (chgV cs)[k * 3 + 2]? = some (.int .i64 c.num) := by
  induction cs generalizing k with
  | nil => simp at h
  | cons x r ih =>
    cases k with
    | zero => simp at h; subst h; simp [chgV, Chg.vs]
    | succ k =>
      have e : chgV (x :: r) = .string x.fr :: .string x.to :: .int .i64 x.num :: chgV r := by simp [chgV, Chg.vs]
      rw [e, show (k + 1) * 3 = k * 3 + 1 + 1 + 1 by omega]
      simp only [List.getElem?_cons_succ]
      exact ih k (by simpa using h)
set_option maxHeartbeats 8000000 in
theorem settle_c (m : Nat) (F : Nat → Prop) (p cap made : Nat) (now d0 : Dr) (cs : List Chg) (T K : List (Nat × Nat)) (bs : List Bd) (w : World) (h : Raw F p cap made now d0 cs T K bs w) (hm : m ≤ cs.length) (hl : cs.length ≤ 2097152) :
    Calls Tryz.prog 43 #[.pointer (some ⟨p, 0, none⟩), .int .i64 m] w fun e w' => e = .returned (.tuple #[]) ∧ Raw (ext F w w') p cap made now (endOf d0 (cs.take m)) [] T K bs w' ∧ Kp F w w' := by
  rcases Nat.eq_zero_or_pos m with rfl | hm0
  · exact settle_zero F p cap made now d0 cs T K bs w h
  obtain ⟨vd, vs, vt, vk, vp, hp, hF, hmp, ho, hoF, hb, hn⟩ := h
  rcases hmp with ⟨rfl, _⟩ | ⟨bd, bf, bt, bk, rfl, rfl, rfl, rfl, f1, f2, f3, f4, n1, n2, n3, n4, n5, n6, m1, m2, m3, m4⟩
  · rw [hn rfl] at hm; simp at hm; omega
  have h : RN F p cap made now d0 cs T K bs w bd bf bt bk vp := ⟨hp, hF, f1, f2, f3, f4, n1, n2, n3, n4, n5, n6, m1, m2, m3, m4, ho, hoF, hb⟩
  clear hp hF f1 f2 f3 f4 n1 n2 n3 n4 n5 n6 m1 m2 m3 m4 ho hoF hb hn
  obtain ⟨g, cp, cur, rfl, _, hg, hnc, hcm, hcs, htk⟩ : ∃ g cp cur, vp = .slice (some ⟨g, 0, none⟩) cs.length cp ∧ 0 ≤ g ∧ w.heap[g]? = some (.cells cur 137 (0, 0)) ∧ cs.length ≤ cp ∧ cp ≤ maxLen ∧ cur.size = cp * 3 ∧ cur.toList.take (cs.length * 3) = chgV cs := by
    rcases h.row.2 with ⟨_, h0⟩ | ⟨g, cp, cur, hv, r⟩
    · omega
    · exact ⟨g, cp, cur, hv, r⟩
  have HH : Hid (RN F p cap made now d0 cs T K bs w bd bf bt bk (.slice (some ⟨g, 0, none⟩) cs.length cp)) := h
  have HG : Hid (w.heap[g]? = some (.cells cur 137 (0, 0))) := hg
  have HGB : Hid (g ≠ bf) := fun e => h.m2.ne_cells hg e.symm
  have HPB : Hid (p ≠ bf) := (h.apart h.m2).1
  have hcell : ∀ k c, cs[k]? = some c → w.cell? ⟨g, k * 3, none⟩ = some (.string c.fr) ∧ w.cell? ⟨g, k * 3 + 1, none⟩ = some (.string c.to) ∧ w.cell? ⟨g, k * 3 + 2, none⟩ = some (.int .i64 c.num) := fun k c hk => by
    obtain ⟨a1, a2, a3⟩ := chg_at cs k c hk
    have b1 := h.row.cells (g := g) rfl _ _ a1
    have b2 := h.row.cells (g := g) rfl _ _ a2
    have b3 := h.row.cells (g := g) rfl _ _ a3
    rw [add_lit0] at b1 b2 b3
    exact ⟨b1, b2, b3⟩
  have HC : Hid (∀ k c, cs[k]? = some c → w.cell? ⟨g, k * 3, none⟩ = some (.string c.fr) ∧ w.cell? ⟨g, k * 3 + 1, none⟩ = some (.string c.to) ∧ w.cell? ⟨g, k * 3 + 2, none⟩ = some (.int .i64 c.num)) := hcell
  have c6 := h.cells.2.2.2.2.2.2
  have hpl := h.lt
  have hgl := blk_lt hg
  obtain ⟨N, hN⟩ : ∃ n, n = cs.length := ⟨_, rfl⟩
  have HN : Hid (N = cs.length) := hN
  rw [← hN] at c6 hnc hm hl
  unfold maxLen at hcm
  have i1 : (0 : Int) ≤ (m : Int) := by omega
  have i2 : (m : Int) ≤ (cp : Int) := by omega
  have i3 : (m : Int) ≤ (N : Int) := by omega
  clear h hg hcell hcs htk hN
  go_enter Tryz.func43, Tryz.ntmps43
  go_wp2
  go_loopw [13] (fun i wr => ∃ k : Nat, i = .int .i64 k ∧ k ≤ m ∧ MapAt .string wr bf (dv (endOf d0 (cs.take k))) ∧ Kp (fun k => k = bf) w wr) (fun i _ => m - (intOf i).toNat)
  case atStart => exact ⟨0, rfl, Nat.zero_le _, HH.out.m2, Kp.refl _ _⟩
  case round =>
    obtain ⟨k, rfl, hkm, hmap, hkp⟩ := hrel
    have hs := hkp.size
    by_cases hk : k < m
    · obtain ⟨c, hc⟩ : ∃ c, cs[k]? = some c := ⟨_, List.getElem?_eq_getElem (by rw [← HN.out]; omega)⟩
      obtain ⟨d1, d2, d3⟩ := HC.out k c hc
      have hgk : wr.heap[g]? = w.heap[g]? := hkp.block g hgl HGB.out
      have a1 : wr.cell? ⟨g, k * 3, none⟩ = some (.string c.fr) := (World.cell?_of_block (a := ⟨g, k * 3, none⟩) hgk).trans d1
      have a2 : wr.cell? ⟨g, k * 3 + 1, none⟩ = some (.string c.to) := (World.cell?_of_block (a := ⟨g, k * 3 + 1, none⟩) hgk).trans d2
      have a3 : wr.cell? ⟨g, k * 3 + 2, none⟩ = some (.int .i64 c.num) := (World.cell?_of_block (a := ⟨g, k * 3 + 2, none⟩) hgk).trans d3
      have HE : Hid (endOf d0 (cs.take (k + 1)) = c.app (endOf d0 (cs.take k))) := endOf_take d0 cs k c hc
      have HM : Hid (MapAt .string wr bf (dv (endOf d0 (cs.take k)))) := hmap
      have HKP : Hid (Kp (fun k => k = bf) w wr) := hkp
      have HAP : Hid (∀ W, MapAt .string W bf (dv (endOf d0 (cs.take k))) → Calls Tryz.prog 61 #[.agg #[.string c.fr, .string c.to, .int .i64 c.num], .map (some bf)] W fun e w' => e = .returned (.tuple #[]) ∧ MapAt .string w' bf (dv (c.app (endOf d0 (cs.take k)))) ∧ Kp (fun k => k = bf) W w') := fun W hW => apply_c c bf _ W hW
      have b1 : decide ((k : Int) < (m : Int)) = true := by simp; omega
      have i4 : (k : Int) < (m : Int) := by omega
      have i5 : (0 : Int) ≤ (k : Int) := by omega
      clear d1 d2 d3 hgk hc hmap hkp
      obtain ⟨fr, to, num⟩ := c
      simp only at a1 a2 a3 HAP
      go_wp2_with fail
      have hA : MapAt .string (wr.alloc (.cells #[.string fr, .string to, .int .i64 num] 137)) bf (dv (endOf d0 (cs.take k))) := HM.out.keep (Lib.alloc_old wr _ bf HM.out.lt)
      have HA : Hid (MapAt .string (wr.alloc (.cells #[.string fr, .string to, .int .i64 num] 137)) bf (dv (endOf d0 (cs.take k)))) := hA
      have y3 : (wr.alloc (.cells #[.string fr, .string to, .int .i64 num] 137)).cell? ⟨p, 3, none⟩ = some (.map (some bf)) := by
        rw [Lib.cell_of_heap ((Lib.alloc_old wr _ p (by omega)).trans ((HKP.out.block p hpl HPB.out).trans HH.out.blk))]; rfl
      clear hA
      go_region_with (go_at_call 61; refine (HAP.out _ (by exact HA.out)).mono ?_; rintro e w2 ⟨rfl, hm2, hk2⟩)
      all_goals
        have hk3 : Kp (fun k => k = bf) w w2 := HKP.out.trans ((Kp.of_below (F := fun k => k = bf) ((Below.refl _ wr).alloc (Nat.le_refl _) (.cells #[.string fr, .string to, .int .i64 num] 137))).trans ⟨hk2.os, hk2.tape, hk2.output, hk2.size, hk2.block⟩)
        clear hk2
        go_wp2
        exact ⟨⟨k + 1, rfl, by omega, by rw [HE.out]; exact hm2, hk3⟩, by simp [intOf]; omega⟩
    · obtain rfl : k = m := by omega
      have b1 : decide ((k : Int) < (k : Int)) = false := by simp
      have R2 : RN F p cap made now (endOf d0 (cs.take k)) cs T K bs wr bd bf bt bk (.slice (some ⟨g, 0, none⟩) cs.length cp) :=
        HH.out.turn HH.out.m2 (fun q hq hne => hkp.block q hq hne) (HH.out.m1.keep (hkp.block _ HH.out.m1.lt HH.out.n1)) hmap (HH.out.m3.keep (hkp.block _ HH.out.m3.lt HH.out.n4.symm)) (HH.out.m4.keep (hkp.block _ HH.out.m4.lt HH.out.n5.symm)) fun _ h => h
      have hkF : Kp F w wr := hkp.wide fun q hq => by subst hq; exact HH.out.f2
      obtain ⟨ao, cp', e6, _, _, g6⟩ := R2.raw.p6
      have HR : Hid (Raw (ext F w (wr.setCell ⟨p, 6, none⟩ (.slice none 0 0))) p cap made now (endOf d0 (cs.take k)) [] T K bs (wr.setCell ⟨p, 6, none⟩ (.slice none 0 0)) ∧ Kp F w (wr.setCell ⟨p, 6, none⟩ (.slice none 0 0))) := ⟨R2.raw.emptied.1.keep (fun _ _ _ => rfl) fun q hq => .inl hq, hkF.trans R2.raw.emptied.2⟩
      clear R2 hmap hkp hkF
      go_wp2
      go_end0
      exact ⟨rfl, HR.out⟩
end Go.Proofs.YtjbphheojfclcaaGreat

-- goBack: the durable directory is the one that is there.
namespace Go.Proofs.YtjbphheojfclcaaGreat
open Go.RowKit
set_option linter.unusedVariables false
theorem RangeAt.perm {d : TypeDesc} {w : World} {b r : Nat} {l left left' : Prs} (h : RangeAt d w b r l left) (hp : left.Perm left') : RangeAt d w b r l left' := by
  obtain ⟨es, clock, since, seen, c0, h1, h2, h3, h4, h5, h6, h7, h8, h9⟩ := h
  exact ⟨es, clock, since, seen, c0, h1, h2, h3, h4, h5, h6, h7, h8, h9.trans hp⟩
theorem perm_of_mem {α : Type} {l : List α} {x : α} (h : x ∈ l) : ∃ l', l.Perm (x :: l') := by
  obtain ⟨s, t, rfl⟩ := List.append_of_mem h
  exact ⟨s ++ t, List.perm_middle⟩
theorem map_split {α β : Type} {f : α → β} {d : List α} {p : β} {l' : List β} (h : (d.map f).Perm (p :: l')) : ∃ e d', d.Perm (e :: d') ∧ p = f e ∧ l'.Perm (d'.map f) := by
  obtain ⟨e, he, hp⟩ := List.mem_map.1 (h.mem_iff.2 (by simp) : p ∈ d.map f)
  obtain ⟨d', hd⟩ := perm_of_mem he
  refine ⟨e, d', hd, hp.symm, ?_⟩
  have := h.symm.trans (hd.map f)
  rw [List.map_cons, hp] at this
  exact (List.perm_cons _).1 this
theorem eql_nil (w : World) : (binOp .eql 99 (.map none) (.map none)).run Tryz.prog w = .ok (.bool true) w := by kernel_rfl
theorem eql_some (b : Nat) (w : World) : (binOp .eql 99 (.map (some b)) (.map none)).run Tryz.prog w = .ok (.bool false) w := by kernel_rfl
set_option maxHeartbeats 4000000 in
theorem clone_nil (w : World) : Calls Tryz.prog 62 #[.map none] w fun e w' => e = .returned (.map none) ∧ w' = w := by
  have hq := eql_nil w
  go_enter Tryz.func62, Tryz.ntmps62
  go_wp2
  go_ret
  exact ⟨rfl, rfl⟩
theorem run_clone {P : Program} (w : World) (t : TypeId) (b : Nat) (es : Array MapEntry) (clock : Nat) (h : w.heap[b]? = some (.map es clock)) : (Extern.MapsClone.clone #[.iface t (.map (some b))]).run P w = .ok (.iface t (.map (some w.heap.size))) (w.alloc (.map es clock)) := by
  change Sem.run P (Bind.bind (getObj b) _) w = _
  rw [Sem.run_bind, MapKept.run_getObj_map h]
  rfl
set_option maxHeartbeats 4000000 in
set_option maxRecDepth 100000 in
theorem clone_c (b : Nat) (l : Prs) (w : World) (h : MapAt .string w b l) : Calls Tryz.prog 62 #[.map (some b)] w fun e w' => e = .returned (.map (some w.heap.size)) ∧ MapAt .string w' w.heap.size l ∧ Below w.heap.size w w' ∧ w'.heap.size = w.heap.size + 1 := by
  have hq := eql_some b w
  obtain ⟨es, clock, hb, hs, hk, hp⟩ := h
  have hcl := run_clone (P := Tryz.prog) w 99 b es clock hb
  have HR : Hid (MapAt .string (w.alloc (.map es clock)) w.heap.size l ∧ Below w.heap.size w (w.alloc (.map es clock)) ∧ (w.alloc (.map es clock)).heap.size = w.heap.size + 1) := ⟨⟨es, clock, heap_alloc_new w _, hs, hk, hp⟩, (Below.refl _ w).alloc (Nat.le_refl _) _, by simp⟩
  obtain ⟨W, hW⟩ : ∃ W, W = w.alloc (.map es clock) := ⟨_, rfl⟩
  obtain ⟨q, hq'⟩ : ∃ q, q = w.heap.size := ⟨_, rfl⟩
  rw [← hW] at hcl HR
  rw [← hq'] at hcl HR ⊢
  have hta : (Instr.typeAssert (.iface 99 (.map (some q))) 20 99 false).run Tryz.prog W = .ok (.map (some q)) W := by kernel_rfl
  clear hs hk hp hb hW hq'
  go_enter Tryz.func62, Tryz.ntmps62
  go_wp2
  rw [run_callFunc_extern Tryz.func75 (by kernel_rfl) (by kernel_rfl) (by kernel_rfl) (e := Extern.MapsClone.clone) (by kernel_rfl), hcl]
  simp only [Result.andThen]
  rw [Oper.upon_value]
  go_wp2
  go_ret
  exact ⟨rfl, HR.out⟩
/-- The loop of goBack: what has been taken back. -/
structure Back (T K : List (Nat × Nat)) (d0 dl : Dr) (B : List (Nat × Nat)) : Prop where
  sub : ∀ e ∈ B, e ∈ T ++ K
  num : (B.map (·.1) ++ dl.map (·.2)).Perm (d0.map (·.2))
theorem Back.step {T K : List (Nat × Nat)} {d0 dl dl' : Dr} {B : List (Nat × Nat)} {e : ByteArray × Nat} {x : Nat} (h : Back T K d0 dl B) (hd : dl.Perm (e :: dl')) (hx : (e.2, x) ∈ T ++ K) : Back T K d0 dl' ((e.2, x) :: B) where
  sub := fun f hf => by
    rcases List.mem_cons.1 hf with rfl | hf
    · exact hx
    · exact h.sub f hf
  num := by
    refine List.Perm.trans ?_ h.num
    simp only [List.map_cons, List.cons_append]
    refine List.Perm.trans ?_ ((hd.map (·.2)).symm.append_left _)
    simp only [List.map_cons]
    exact List.perm_middle.symm
theorem Back.fresh {T K : List (Nat × Nat)} {d0 dl dl' : Dr} {B : List (Nat × Nat)} {e : ByteArray × Nat} (h : Back T K d0 dl B) (hd : dl.Perm (e :: dl')) (hu : (d0.map (·.2)).Nodup) : ∀ f ∈ B, (f.1 : Int) ≠ (e.2 : Int) := fun f hf hne => by
  have hn := (h.num.nodup_iff).2 hu
  have := (List.nodup_append.1 hn).2.2
  exact this f.1 (List.mem_map.2 ⟨f, hf, rfl⟩) e.2 ((hd.map (·.2)).mem_iff.2 (by simp)) (by omega)
theorem mk_run_h (t k e : TypeId) (ht : Tryz.prog.underlying t = some (.map k e)) (n : Int) (w : World) : (Instr.makeMap t (some (.int .i64 n))).run Tryz.prog w = .ok (.map (some w.heap.size)) (w.alloc (.map #[] 0)) := by
  simp [Instr.makeMap, run_underlying ht, asInt, Result.andThen]; rfl
/-- Ahead of the loop: the directory copied, a new map, the range begun. -/
theorem back_pre {p cap made q : Nat} {v2 v3 v4 v5 vp : Value} {d0 : Dr} {w w1 : World} (n : Int) (hq : q = w.heap.size) (hpl : p < w.heap.size) (hm : MapAt .string w1 q (dv d0)) (hb : Below q w w1) (hs : w1.heap.size = q + 1) (hp : w1.heap[p]? = some (.cells (diskV cap made v2 v3 v4 v5 vp) 103 (0, 0))) :
    MapAt .string (w1.setCell ⟨p, 2, none⟩ (.map (some q))) q (dv d0) ∧ (w1.setCell ⟨p, 2, none⟩ (.map (some q))).cell? ⟨p, 2, none⟩ = some (.map (some q)) ∧
    ∃ W2 W3, (Instr.makeMap 100 (some (.int .i64 n))).run Tryz.prog (w1.setCell ⟨p, 2, none⟩ (.map (some q))) = .ok (.map (some (q + 1))) W2 ∧ W2.cell? ⟨p, 2, none⟩ = some (.map (some q)) ∧
      (Instr.range 99 (.map (some q))).run Tryz.prog W2 = .ok (.pointer (some ⟨q + 2, 0, none⟩)) W3 ∧ RangeAt .string W3 q (q + 2) (dv d0) (dv d0) ∧ MapAt (.int .i64) W3 (q + 1) (bv []) ∧ W3.heap[p]? = some (.cells (diskV cap made (.map (some q)) v3 v4 v5 vp) 103 (0, 0)) ∧ Kp (fun k => k = p) w W3 ∧ W3.heap.size = q + 3 := by
  have hqp : q ≠ p := by omega
  have hp1 : (w1.setCell ⟨p, 2, none⟩ (.map (some q))).heap[p]? = some (.cells (diskV cap made (.map (some q)) v3 v4 v5 vp) 103 (0, 0)) := blk_set hp _
  have hm1 : MapAt .string (w1.setCell ⟨p, 2, none⟩ (.map (some q))) q (dv d0) := hm.keep (Below.heap_setCell _ _ _ _ hqp)
  have hs1 : (w1.setCell ⟨p, 2, none⟩ (.map (some q))).heap.size = q + 1 := by simp [World.setCell, hs]
  have hk1 : Kp (fun k => k = p) w (w1.setCell ⟨p, 2, none⟩ (.map (some q))) := ⟨hb.os, hb.tape, hb.output, by omega, fun k hk hne => (Below.heap_setCell _ _ _ _ hne).trans (hb.block k (by omega))⟩
  obtain ⟨W1, hW1⟩ : ∃ W, W = w1.setCell ⟨p, 2, none⟩ (.map (some q)) := ⟨_, rfl⟩
  rw [← hW1] at hp1 hm1 hs1 hk1 ⊢
  have hr2 := mk_run_h 100 _ _ Tryz.underlying100 n W1
  have hm2 : MapAt .string (W1.alloc (.map #[] 0)) q (dv d0) := hm1.keep (Lib.alloc_old W1 _ q (by omega))
  have hp2 : (W1.alloc (.map #[] 0)).heap[p]? = some (.cells (diskV cap made (.map (some q)) v3 v4 v5 vp) 103 (0, 0)) := (Lib.alloc_old W1 _ p (by omega)).trans hp1
  have hb2 : MapAt (.int .i64) (W1.alloc (.map #[] 0)) (q + 1) (bv []) := by rw [← hs1]; exact MapAt.made _ W1
  have hs2 : (W1.alloc (.map #[] 0)).heap.size = q + 2 := by simp [hs1]
  have hk2 : Kp (fun k => k = p) w (W1.alloc (.map #[] 0)) := hk1.kept ((Below.refl _ W1).alloc (Nat.le_refl _) _)
  rw [hs1] at hr2
  obtain ⟨W2, hW2⟩ : ∃ W, W = W1.alloc (.map #[] 0) := ⟨_, rfl⟩
  rw [← hW2] at hr2 hm2 hp2 hb2 hs2 hk2
  obtain ⟨W3, hr3, hg3, hb3, hs3⟩ := hm2.range (P := Tryz.prog) Tryz.underlying99
  rw [hs2] at hr3 hg3 hb3 hs3
  exact ⟨hm1, by rw [Lib.cell_of_heap hp1]; rfl, W2, W3, hr2, by rw [Lib.cell_of_heap hp2]; rfl, hr3, hg3, hb2.keep (hb3.block _ (by omega)), (hb3.block p (by omega)).trans hp2, hk2.kept (by rw [hs2]; exact hb3), by omega⟩
set_option maxHeartbeats 8000000 in
theorem goBack_c (F : Nat → Prop) (p cap made : Nat) (now d0 : Dr) (T K : List (Nat × Nat)) (bs : List Bd) (w : World) (bd bf bt bk : Nat) (vp : Value) (h : RN F p cap made now d0 [] T K bs w bd bf bt bk vp) (hu : (d0.map (·.2)).Nodup) (hall : ∀ e ∈ d0, e.2 ∈ T.map (·.1) ∨ e.2 ∈ K.map (·.1)) (hFl : ∀ k, F k → k < w.heap.size) :
    Calls Tryz.prog 44 #[.pointer (some ⟨p, 0, none⟩)] w fun e w' => e = .returned (.tuple #[]) ∧ (∃ B, Back T K d0 [] B ∧ Raw (ext F w w') p cap made d0 d0 [] B [] bs w') ∧ Kp F w w' := by
  obtain ⟨c0, c1, c2, c3, c4, c5, c6⟩ := h.cells
  have HH : Hid (RN F p cap made now d0 [] T K bs w bd bf bt bk vp) := h
  have HU : Hid ((d0.map (·.2)).Nodup) := hu
  have HALL : Hid (∀ e ∈ d0, e.2 ∈ T.map (·.1) ∨ e.2 ∈ K.map (·.1)) := hall
  have HCL : Hid (Calls Tryz.prog 62 #[.map (some bf)] w fun e w' => e = .returned (.map (some w.heap.size)) ∧ MapAt .string w' w.heap.size (dv d0) ∧ Below w.heap.size w w' ∧ w'.heap.size = w.heap.size + 1) := clone_c bf (dv d0) w h.m2
  have hpl := h.lt
  have HFL : Hid (∀ k, F k → k < w.heap.size) := hFl
  obtain ⟨q, hq⟩ : ∃ q, q = w.heap.size := ⟨_, rfl⟩
  rw [← hq] at HCL
  have HQ : Hid (q = w.heap.size) := hq
  clear h hu hall hFl hq
  go_enter Tryz.func44, Tryz.ntmps44
  go_wp2_with (first
    | (go_at_call 62; refine HCL.out.mono ?_; rintro e w1 ⟨rfl, hm1, hb1, hs1⟩; have hp1 : w1.heap[p]? = some (.cells (diskV cap made (.map (some bd)) (.map (some bf)) (.map (some bt)) (.map (some bk)) vp) 103 (0, 0)) := (hb1.block p (by rw [HQ.out]; exact hpl)).trans HH.out.blk; have e2 : w1.cell? ⟨p, 2, none⟩ = some (.map (some bd)) := (by rw [Lib.cell_of_heap hp1]; rfl); have g2 := Lib.frozen_of_heap hp1 2; obtain ⟨hmq, e2', W2, W3, hr2, x2, hr3, hg3, hm3, hp3, hk3, hs3⟩ := back_pre (d0.length : Int) HQ.out hpl hm1 hb1 hs1 hp1; clear hm1 hb1 hs1 hp1; have HMQ : Hid (MapAt .string (w1.setCell ⟨p, 2, none⟩ (.map (some q))) q (dv d0)) := hmq; have H3 : Hid (RangeAt .string W3 q (q + 2) (dv d0) (dv d0) ∧ MapAt (.int .i64) W3 (q + 1) (bv []) ∧ W3.heap[p]? = some (.cells (diskV cap made (.map (some q)) (.map (some bf)) (.map (some bt)) (.map (some bk)) vp) 103 (0, 0)) ∧ Kp (fun k => k = p) w W3 ∧ W3.heap.size = q + 3) := ⟨hg3, hm3, hp3, hk3, hs3⟩; clear hmq hg3 hm3 hp3 hk3 hs3)
    | (at_len; refine wp_len _ rfl _ 99 rfl _ _ rfl (by have := HMQ.out.len (P := Tryz.prog) Tryz.underlying99 3; rw [dv_len] at this; exact this) ?_)
    | (at_range; refine wp_range _ rfl _ 99 rfl _ _ rfl W3 hr3 ?_))
  go_frame
  clear hr2 hr3 x2 e2 g2 e2' HMQ HCL c0 c1 c2 c3 c4 c5 c6
  go_loopw [4] (fun _ wr => ∃ dl B, RangeAt .string wr q (q + 2) (dv d0) (dv dl) ∧ MapAt (.int .i64) wr (q + 1) (bv B) ∧ Back T K d0 dl B ∧ wr.heap[p]? = some (.cells (diskV cap made (.map (some q)) (.map (some bf)) (.map (some bt)) (.map (some bk)) vp) 103 (0, 0)) ∧ Kp (fun k => k = p) w wr ∧ q + 3 ≤ wr.heap.size) (fun _ wr => wr.rangeLeft q (q + 2))
  case atStart => exact ⟨d0, [], H3.out.1, H3.out.2.1, ⟨by simp, by simp⟩, H3.out.2.2.1, H3.out.2.2.2.1, Nat.le_of_eq H3.out.2.2.2.2.symm⟩
  case round =>
    obtain ⟨dl, B, hrg, hmb, hbk, hp, hkp, hsz⟩ := hrel
    have HRG : Hid (RangeAt .string wr q (q + 2) (dv d0) (dv dl)) := hrg
    have hqw := HQ.out
    rcases hrg.next (P := Tryz.prog) 0 with ⟨hl0, hrun⟩ | ⟨pv, left', w2, hperm, _, hrun, hrg2, hgr, hs2, hen⟩
    · have hnx : ∀ ty, (Instr.next (.pointer (some ⟨q + 2, 0, none⟩)) false ty).run Tryz.prog wr = .ok (.tuple #[.bool false]) wr := fun ty => hrun
      have hdl : dl = [] := by
        cases dl with
        | nil => rfl
        | cons _ _ => simp [dv] at hl0
      subst hdl
      obtain ⟨w5, hw5⟩ : ∃ w5, w5 = wr.setCell ⟨p, 4, none⟩ (.map (some (q + 1))) := ⟨_, rfl⟩
      have hp5 : w5.heap[p]? = some (.cells (diskV cap made (.map (some q)) (.map (some bf)) (.map (some (q + 1))) (.map (some bk)) vp) 103 (0, 0)) := by rw [hw5]; exact blk_set hp _
      have ho5 : ∀ k, k ≠ p → w5.heap[k]? = wr.heap[k]? := fun k hk => by rw [hw5]; exact Below.heap_setCell _ _ _ _ hk
      have hbkp : bk ≠ p := (HH.out.apart HH.out.m4).1.symm
      have hm5 : MapAt (.int .i64) w5 bk (bv K) := HH.out.m4.keep ((ho5 bk hbkp).trans (hkp.block bk HH.out.m4.lt hbkp))
      obtain ⟨w6, hr6, hm6, ht6⟩ := hm5.clear (P := Tryz.prog) Tryz.underlying100 0
      have hs56 := ht6.size
      have hs5 : w5.heap.size = wr.heap.size := by rw [hw5]; simp [World.setCell]
      have HR : Hid ((∃ B, Back T K d0 [] B ∧ Raw (ext F w w6) p cap made d0 d0 [] B [] bs w6) ∧ Kp F w w6) := by
        have low : ∀ k, k < w.heap.size → k ≠ p → k ≠ bk → w6.heap[k]? = w.heap[k]? := fun k h1 h2 h3 => (ht6.other h3).trans ((ho5 k h2).trans (hkp.block k h1 h2))
        have hbkl := HH.out.m4.lt
        have hi : ∀ k, q ≤ k → k ≠ p → w6.heap[k]? = wr.heap[k]? := fun k h1 h2 => (ht6.other (by omega)).trans (ho5 k h2)
        have hE : ∀ k, q ≤ k → k < q + 3 → ext F w w6 k := fun k h1 h2 => .inr ⟨by omega, by omega⟩
        have hfl := HH.out.m2.lt
        have hap := HH.out.apart HH.out.m4
        refine ⟨⟨B, hbk, ?_⟩, ?_⟩
        · have R : RN (ext F w w6) p cap made d0 d0 [] B [] bs w6 q bf (q + 1) bk vp := by
            refine ⟨(ht6.other hbkp.symm).trans hp5, .inl HH.out.fp, hE _ (by omega) (by omega), .inl HH.out.f2, hE _ (by omega) (by omega), .inl HH.out.f4, by omega, by omega, by omega, by omega, HH.out.n5, by omega, hrg.map.keep (hi q (Nat.le_refl _) (by omega)), HH.out.m2.keep (low bf hfl (HH.out.apart HH.out.m2).1.symm HH.out.n5), hmb.keep (hi (q + 1) (by omega) (by omega)), hm6, own_keep HH.out.row fun k hk => ?_, fun k hk => .inl (HH.out.rowF k hk), ?_⟩
            · obtain ⟨cur, hh⟩ := own_typed HH.out.row hk
              exact low k (blk_lt hh) (fun e => typed_ne hh HH.out.blk (by decide) e) (hap.2.1 k hk)
            · rw [List.append_nil]
              refine (HH.out.bod.keep (G := ext F w w6) (fun e he k hk => ?_) fun k hk => .inl hk).sub hbk.sub
              obtain ⟨i, x, _, _, hx⟩ := HH.out.bod.at_ e he
              rcases hk with rfl | hk
              · obtain ⟨cur, hh⟩ := hx.blk
                exact low _ (blk_lt hh) (fun e1 => typed_ne hh HH.out.blk (by decide) e1) (hap.2.2 e he _ (.inl rfl))
              · obtain ⟨cur, fz, hh⟩ := hx.buf hk
                exact low _ (blk_lt hh) (fun e1 => typed_ne hh HH.out.blk (by decide) e1) (hap.2.2 e he k (.inr hk))
          exact R.raw
        · refine ⟨ht6.os.1.trans (by rw [hw5]; exact hkp.os), ht6.os.2.1.trans (by rw [hw5]; exact hkp.tape), ht6.os.2.2.trans (by rw [hw5]; exact hkp.output), by omega, fun k hk hF => low k hk (fun e => hF (e ▸ HH.out.fp)) (fun e => hF (e ▸ HH.out.f4))⟩
      have y4 : wr.cell? ⟨p, 4, none⟩ = some (.map (some bt)) := by rw [Lib.cell_of_heap hp]; rfl
      have z4 : wr.frozen? ⟨p, 4, none⟩ = false := Lib.frozen_of_heap hp 4
      have y5 : w5.cell? ⟨p, 5, none⟩ = some (.map (some bk)) := by rw [Lib.cell_of_heap hp5]; rfl
      have t5 := hw5.symm
      clear hrun hl0 hrg hmb hbk hp hkp hsz hqw hw5 hp5 ho5 hm5 hm6 ht6 hs56 hs5
      go_wp2_with (at_builtin; refine wp_clear _ rfl _ 100 rfl _ rfl w6 hr6 ?_)
      go_end0
      exact ⟨rfl, HR.out⟩
    · obtain ⟨e, dl', hd, rfl, hl'⟩ := map_split (f := fun e : ByteArray × Nat => (Value.string e.1, Value.int .i64 e.2)) hperm
      have hrg3 : RangeAt .string w2 q (q + 2) (dv d0) (dv dl') := hrg2.perm hl'
      have hnx : ∀ ty, (Instr.next (.pointer (some ⟨q + 2, 0, none⟩)) false ty).run Tryz.prog wr = .ok (.tuple #[.bool true, .string e.1, .int .i64 e.2]) w2 := fun ty => hrun
      have hmem : e.2 ∈ d0.map (·.2) := hbk.num.mem_iff.1 (List.mem_append_right _ ((hd.map (·.2)).mem_iff.2 (by simp)))
      obtain ⟨f, hf, hfe⟩ := List.mem_map.1 hmem
      have hin := HALL.out f hf
      rw [hfe] at hin
      obtain ⟨nm, n⟩ := e
      simp only at hnx hin hmem
      have hle : wr.heap.size = w2.heap.size := hs2.symm
      have hp2 : w2.heap[p]? = some (.cells (diskV cap made (.map (some q)) (.map (some bf)) (.map (some bt)) (.map (some bk)) vp) 103 (0, 0)) := (hgr.block p (by omega) (by simp; omega)).trans hp
      have low : ∀ k, k < w.heap.size → k ≠ p → w2.heap[k]? = w.heap[k]? := fun k h1 h2 => (hgr.block k (by omega) (by simp; omega)).trans (hkp.block k h1 h2)
      have hm2 : MapAt (.int .i64) w2 (q + 1) (bv B) := hmb.keep (hgr.block _ (by omega) (by simp))
      have mT : MapAt (.int .i64) w2 bt (bv T) := HH.out.m3.keep (low bt HH.out.m3.lt (HH.out.apart HH.out.m3).1.symm)
      have mK : MapAt (.int .i64) w2 bk (bv K) := HH.out.m4.keep (low bk HH.out.m4.lt (HH.out.apart HH.out.m4).1.symm)
      have hfresh := hbk.fresh hd HU.out
      have y4 : w2.cell? ⟨p, 4, none⟩ = some (.map (some bt)) := by rw [Lib.cell_of_heap hp2]; rfl
      have y5 : w2.cell? ⟨p, 5, none⟩ = some (.map (some bk)) := by rw [Lib.cell_of_heap hp2]; rfl
      have key : ∀ x, (n, x) ∈ T ++ K → ∃ w3, (Instr.mapUpdate 100 (.map (some (q + 1))) (.int .i64 n) (.pointer (some ⟨x, 0, none⟩))).run Tryz.prog w2 = .ok () w3 ∧ Hid ((∃ dl B, RangeAt .string w3 q (q + 2) (dv d0) (dv dl) ∧ MapAt (.int .i64) w3 (q + 1) (bv B) ∧ Back T K d0 dl B ∧ w3.heap[p]? = some (.cells (diskV cap made (.map (some q)) (.map (some bf)) (.map (some bt)) (.map (some bk)) vp) 103 (0, 0)) ∧ Kp (fun k => k = p) w w3 ∧ q + 3 ≤ w3.heap.size) ∧ w3.rangeLeft q (q + 2) < wr.rangeLeft q (q + 2)) := fun x hx => by
        obtain ⟨w3, hr3, hm3, ht3⟩ := MapAt.store_new (P := Tryz.prog) (t := 100) (k := 3) (e := 106) hm2 Tryz.underlying100 Tryz.underlying3 (key_i n) (bv_no hfresh) (.pointer (some ⟨x, 0, none⟩))
        have hrg4 : RangeAt .string w3 q (q + 2) (dv d0) (dv dl') := hrg3.keep (ht3.other (by omega)) (ht3.other (by omega))
        have hs3 := ht3.size
        refine ⟨w3, hr3, ⟨dl', (n, x) :: B, hrg4, hm3, hbk.step hd hx, (ht3.other (by omega)).trans hp2, ⟨ht3.os.1.trans (hgr.os.trans hkp.os), ht3.os.2.1.trans (hgr.tape.trans hkp.tape), ht3.os.2.2.trans (hgr.output.trans hkp.output), by have := hkp.size; omega, fun k h1 h2 => (ht3.other (by omega)).trans (low k h1 h2)⟩, by omega⟩, ?_⟩
        rw [hrg4.left_eq, HRG.out.left_eq, dv_len, dv_len, hd.length_eq]; simp
      by_cases hT : ∃ x, (n, x) ∈ T
      · obtain ⟨x, hx⟩ := hT
        have hl1 := bv_look true mT hx
        simp only [if_true] at hl1
        obtain ⟨w3, hr3, HR⟩ := key x (List.mem_append_left _ hx)
        clear key hrun hrg hmb hbk hp hkp hsz hqw hperm hrg2 hgr hs2 hd hl' hrg3 hmem hf hfe hin hle hp2 low hm2 mT mK hfresh hx HRG
        go_wp2_with (first
          | (at_lookup; refine wp_look _ rfl _ _ 100 true rfl _ _ _ rfl rfl hl1 ?_)
          | (at_mapUpdate; refine wp_store _ rfl _ _ _ 100 rfl _ _ _ rfl rfl rfl w3 hr3 ?_; go_frame))
        exact HR.out
      · obtain ⟨x, hx⟩ : ∃ x, (n, x) ∈ K := by
          rcases hin with h1 | h1
          · obtain ⟨g, hg, he⟩ := List.mem_map.1 h1
            exact absurd ⟨g.2, by rw [← he]; exact hg⟩ hT
          · obtain ⟨g, hg, he⟩ := List.mem_map.1 h1
            exact ⟨g.2, by rw [← he]; exact hg⟩
        have hl1 := bv_look_no true mT (n := n) (fun g hg hne => hT ⟨g.2, by rw [← (show g.1 = n by omega)]; exact hg⟩)
        have hl2 := bv_look false mK hx
        simp only [if_true, Bool.false_eq_true, if_false] at hl1 hl2
        obtain ⟨w3, hr3, HR⟩ := key x (List.mem_append_right _ hx)
        clear key hrun hrg hmb hbk hp hkp hsz hqw hperm hrg2 hgr hs2 hd hl' hrg3 hmem hf hfe hin hle hp2 low hm2 mT mK hfresh hx HRG hT
        go_wp2_with (first
          | (at_lookup; refine wp_look _ rfl _ _ 100 _ rfl _ _ _ rfl rfl (by first | with_reducible exact hl1 | with_reducible exact hl2) ?_)
          | (at_mapUpdate; refine wp_store _ rfl _ _ _ 100 rfl _ _ _ rfl rfl rfl w3 hr3 ?_; go_frame))
        exact HR.out
end Go.Proofs.YtjbphheojfclcaaGreat

-- Names and Used: the maps gone through.
namespace Go.Proofs.YtjbphheojfclcaaGreat
open Go.RowKit
set_option linter.unusedVariables false
/-- A map's value: nil, or a block. -/
def MapV (d : TypeDesc) (w : World) (v : Value) (l : Prs) : Prop := (v = .map none ∧ l = []) ∨ ∃ b, v = .map (some b) ∧ MapAt d w b l
theorem MapV.len {d : TypeDesc} {w : World} {v : Value} {l : Prs} (h : MapV d w v l) {P : Program} {t k e : TypeId} (ht : P.underlying t = some (.map k e)) (ty : TypeId) : (Builtin.len_ #[t] ty #[v]).run P w = .ok (.int .i64 l.length) w := by
  rcases h with ⟨rfl, rfl⟩ | ⟨b, rfl, hb⟩
  · exact len_nil ht ty
  · exact hb.len ht ty
theorem MapV.keep {d : TypeDesc} {w w' : World} {v : Value} {l : Prs} (h : MapV d w v l) (hb : Below w.heap.size w w') : MapV d w' v l := by
  rcases h with h | ⟨b, rfl, hm⟩
  · exact .inl h
  · exact .inr ⟨b, rfl, hm.keep (hb.block b hm.lt)⟩
theorem enc_eq (l : List ByteArray) : strV l = (l.map fun s => s.data.toList).map encStr := by
  unfold strV
  rw [List.map_map]
  exact List.map_congr_left fun s _ => rfl
/-- A directory's names, sorted: they are as they are. -/
theorem sort_names {d : Dr} (h : Dw d) {ss : List ByteArray} (hp : ss.Perm (d.map (·.1))) : (ss.map fun s => s.data.toList).mergeSort leB = (d.map (·.1)).map fun s => s.data.toList := by
  rw [mergeSort_of_perm (hp.map fun s : ByteArray => s.data.toList)]
  apply List.mergeSort_of_pairwise
  rw [List.pairwise_map, List.pairwise_map]
  refine h.rise.imp_of_mem fun {a b} _ _ hlt => ?_
  unfold ltB at hlt
  rw [bytesLess_eq, Lib.toList_data, Lib.toList_data] at hlt
  have := of_decide_eq_true hlt
  simp only [leB, decide_eq_true_eq]
  exact List.le_of_lt this
theorem info9s : (Tryz.prog.info? 9).map (fun i => (i.zero, i.size, i.bytes)) = some (some (.string ⟨#[]⟩), 1, 16) := by kernel_rfl
/-- The sort, of a list of strings that the call owns. -/
theorem sort_c (base g cap : Nat) (ss : List ByteArray) (d : Dr) (w : World) (hd : Dw d) (hp : ss.Perm (d.map (·.1))) (h : w.ownsRow base 9 1 (.slice (some ⟨g, 0, none⟩) ss.length cap) ss.length (strV ss)) (hl : ss.length ≤ 64) :
    Calls Tryz.prog 63 #[.slice (some ⟨g, 0, none⟩) ss.length cap] w fun e w' => e = .returned (.tuple #[]) ∧ w'.ownsRow base 9 1 (.slice (some ⟨g, 0, none⟩) ss.length cap) ss.length (strV (d.map (·.1))) ∧ w.grownBy w' (some g) := by
  rcases h.2 with ⟨hnil, _⟩ | ⟨g', cap', cur, hv, hbase, hb, h1, h2, h3, h4⟩
  · cases hnil
  cases hv
  rw [enc_eq] at h4
  have hlen : (ss.map fun s => s.data.toList).length = ss.length := by simp
  have hH : Go.Sort.Holds encStr w g 0 (ss.map fun s => s.data.toList).toArray := holds_of_block hb (by rw [hlen]; simpa using h4)
  have hc := Tryz.slices_Sort_string g 0 cap (ss.map fun s => s.data.toList) w hH (blk_lt hb) (by rw [hlen]; omega)
  rw [hlen] at hc
  refine hc.mono ?_
  rintro e w' ⟨rfl, n, os, rfl⟩
  have hs := sort_names hd hp
  have hs' : (ss.map fun s => s.data.toList).mergeSort (fun x y => decide (x ≤ y)) = (d.map (·.1)).map fun s => s.data.toList := hs
  rw [hs', enc_eq]
  refine ⟨rfl, ?_, grownBy_sorted _⟩
  have := ownsRow_sorted (w := w) (base := base) (n := n) (os := os) (ss := ss.map fun s => s.data.toList) (ts := (d.map (·.1)).map fun s => s.data.toList) (by rw [hlen, List.length_map]; exact hp.length_eq.symm) hbase hb (by rw [hlen]; exact h1) h2 h3
  rw [hlen] at this
  exact this
def RangeV (d : TypeDesc) (w : World) (v : Value) (r : Nat) (l left : Prs) : Prop := (v = .map none ∧ l = [] ∧ left = [] ∧ w.heap[r]? = some (.mapIter none 0 #[] 0)) ∨ ∃ b, v = .map (some b) ∧ RangeAt d w b r l left
def leftV (w : World) (v : Value) (r : Nat) : Nat := match v with | .map (some b) => w.rangeLeft b r | _ => 0
theorem RangeV.left_eq {d : TypeDesc} {w : World} {v : Value} {r : Nat} {l left : Prs} (h : RangeV d w v r l left) : leftV w v r = left.length := by
  rcases h with ⟨rfl, _, rfl, _⟩ | ⟨b, rfl, hb⟩
  · rfl
  · exact hb.left_eq
theorem RangeV.lt {d : TypeDesc} {w : World} {v : Value} {r : Nat} {l left : Prs} (h : RangeV d w v r l left) : r < w.heap.size ∧ ∀ b, v = .map (some b) → b < w.heap.size := by
  rcases h with ⟨rfl, _, rfl, hr⟩ | ⟨b, rfl, hb⟩
  · exact ⟨blk_lt hr, fun b hb => by cases hb⟩
  · exact ⟨hb.lt.1, fun b' hb' => by cases hb'; exact hb.lt.2⟩
theorem RangeV.ne_cells {d : TypeDesc} {w : World} {v : Value} {r : Nat} {l left : Prs} (h : RangeV d w v r l left) {k : Nat} {cs : Array Value} {t : TypeId} {fr : Nat × Nat} (hk : w.heap[k]? = some (.cells cs t fr)) : r ≠ k ∧ ∀ b, v = .map (some b) → b ≠ k := by
  rcases h with ⟨rfl, _, rfl, hr⟩ | ⟨b, rfl, hb⟩
  · exact ⟨fun e => (by rw [e, hk] at hr; cases hr), fun b hb => (by cases hb)⟩
  · exact ⟨hb.ne_cells hk, fun b' hb' => by cases hb'; exact hb.map.ne_cells hk⟩
theorem RangeV.keep {d : TypeDesc} {w w' : World} {v : Value} {r : Nat} {l left : Prs} (h : RangeV d w v r l left) (hr' : w'.heap[r]? = w.heap[r]?) (hb' : ∀ b, v = .map (some b) → w'.heap[b]? = w.heap[b]?) : RangeV d w' v r l left := by
  rcases h with ⟨h1, h2, h3, hr⟩ | ⟨b, rfl, hb⟩
  · exact .inl ⟨h1, h2, h3, hr'.trans hr⟩
  · exact .inr ⟨b, rfl, hb.keep (hb' b rfl) hr'⟩
theorem MapV.range {d : TypeDesc} {w : World} {v : Value} {l : Prs} (h : MapV d w v l) {P : Program} {t k e : TypeId} (ht : P.underlying t = some (.map k e)) : ∃ w', (Instr.range t v).run P w = .ok (.pointer (some ⟨w.heap.size, 0, none⟩)) w' ∧ RangeV d w' v w.heap.size l l ∧ Below w.heap.size w w' ∧ w'.heap.size = w.heap.size + 1 := by
  rcases h with ⟨rfl, rfl⟩ | ⟨b, rfl, hb⟩
  · refine ⟨w.alloc (.mapIter none 0 #[] 0), ?_, .inl ⟨rfl, rfl, rfl, heap_alloc_new w _⟩, (Below.refl _ w).alloc (Nat.le_refl _) _, by simp⟩
    simp [Instr.range, run_underlying ht, Result.andThen]
  · obtain ⟨w', h1, h2, h3, h4⟩ := hb.range (P := P) ht
    exact ⟨w', h1, .inr ⟨b, rfl, h2⟩, h3, h4⟩
theorem RangeV.next {P : Program} {d : TypeDesc} {w : World} {v : Value} {r : Nat} {l left : Prs} (h : RangeV d w v r l left) :
    (left = [] ∧ ∀ ty, (Instr.next (.pointer (some ⟨r, 0, none⟩)) false ty).run P w = .ok (.tuple #[.bool false]) w) ∨
    ∃ p left' w', left.Perm (p :: left') ∧ p ∈ l ∧ (∀ ty, (Instr.next (.pointer (some ⟨r, 0, none⟩)) false ty).run P w = .ok (.tuple #[.bool true, p.1, p.2]) w') ∧ RangeV d w' v r l left' ∧
      w.grownBy w' (some r) ∧ w'.heap.size = w.heap.size ∧ (Instr.entry (.pointer (some ⟨r, 0, none⟩))).run P w' = .ok (.tuple #[p.1, p.2]) w' := by
  rcases h with ⟨rfl, rfl, rfl, hr⟩ | ⟨b, rfl, hb⟩
  · exact .inl ⟨rfl, fun ty => by simp [Instr.next, getObj, Sem.run, hr]⟩
  · rcases hb.next (P := P) 0 with ⟨h1, h2⟩ | ⟨p, left', w', h1, h2, h3, h4, h5, h6, h7⟩
    · exact .inl ⟨h1, fun ty => h2⟩
    · exact .inr ⟨p, left', w', h1, h2, fun ty => h3, .inr ⟨b, rfl, h4⟩, h5, h6, h7⟩
theorem RangeV.perm {d : TypeDesc} {w : World} {v : Value} {r : Nat} {l left left' : Prs} (h : RangeV d w v r l left) (hp : left.Perm left') : RangeV d w v r l left' := by
  rcases h with ⟨h1, h2, rfl, hr⟩ | ⟨b, rfl, hb⟩
  · exact .inl ⟨h1, h2, hp.nil_eq.symm, hr⟩
  · exact .inr ⟨b, rfl, hb.perm hp⟩
set_option maxHeartbeats 8000000 in
theorem pnames_c (p : Nat) (vd : Value) (d : Dr) (w : World) (c2 : w.cell? ⟨p, 2, none⟩ = some vd) (hm : MapV .string w vd (dv d)) (hd : Dw d) (hl : d.length ≤ 64) :
    Calls Tryz.prog 45 #[.pointer (some ⟨p, 0, none⟩)] w fun e w' => (∃ v, e = .returned v ∧ w'.ownsRow w.heap.size 9 1 v d.length (strV (d.map (·.1)))) ∧ Below w.heap.size w w' := by
  obtain ⟨i0, hi, hz0, hz1, hz2⟩ := info_parts info9s
  have HM : Hid (MapV .string w vd (dv d)) := hm
  have HD : Hid (Dw d) := hd
  have hpl : p < w.heap.size := World.block_lt_of_cell? w _ c2
  have C2 : Hid (w.cell? ⟨p, 2, none⟩ = some vd) := c2
  obtain ⟨n, hn⟩ : ∃ n, n = d.length := ⟨_, rfl⟩
  have HN : Hid (n = d.length) := hn
  rw [← hn] at hl
  clear hm hd hn
  go_enter Tryz.func45, Tryz.ntmps45
  go_wp2_with (first
    | (at_len; refine wp_len _ rfl _ 99 rfl _ _ rfl (by have := HM.out.len (P := Tryz.prog) Tryz.underlying99 3; rw [dv_len, ← HN.out] at this; exact this) ?_)
    | (at_make; refine wpList_make_own _ rfl _ _ 24 rfl w.heap.size 9 i0 (.string ⟨#[]⟩) 1 Tryz.underlying24 hi hz0 hz1 .i64 .i64 _ n rfl rfl rfl (by rw [hz2]; omega) (by unfold maxLen; omega) (Nat.le_refl _) ?_; intro w1 hown1 hg1; have hb1 : Below w.heap.size w w1 := (Below.refl _ w).grown hg1 (Nat.le_refl _) (fun k hk => by cases hk); have e2 := cell_below hb1 C2.out; obtain ⟨w2, hr2, hrg2, hbb2, hss2⟩ := (HM.out.keep hb1).range (P := Tryz.prog) Tryz.underlying99; obtain ⟨r, hr⟩ : ∃ r, r = w1.heap.size := ⟨_, rfl⟩; rw [← hr] at hr2 hrg2 hbb2 hss2; have H1 : Hid (w1.ownsRow w.heap.size 9 1 (.slice (some ⟨w.heap.size, 0, none⟩) 0 n) 0 [] ∧ Below w.heap.size w w1 ∧ RangeV .string w2 vd r (dv d) (dv d) ∧ Below r w1 w2 ∧ r = w1.heap.size ∧ w2.heap.size = r + 1) := ⟨hown1, hb1, hrg2, hbb2, hr, hss2⟩; clear hown1 hg1 hb1 hrg2 hbb2 hr hss2)
    | (at_range; refine wp_range _ rfl _ 99 rfl _ _ rfl w2 hr2 ?_))
  go_frame
  have hrlo : w.heap.size ≤ r := by have := H1.out.2.1.size; have := H1.out.2.2.2.2.1; omega
  have HLO : Hid (∀ b, vd = .map (some b) → b < w.heap.size) := fun b hb => by
    rcases HM.out with ⟨h, _⟩ | ⟨b', h, hm⟩
    · rw [h] at hb; cases hb
    · rw [h] at hb; cases hb; exact hm.lt
  have HL : Hid (d.length ≤ 64) := by show d.length ≤ 64; rw [← HN.out]; exact hl
  clear hr2 e2 c2
  go_loopw [3, 4] (fun v _ wr => ∃ (dl : Dr) (ss : List ByteArray), RangeV .string wr vd r (dv d) (dv dl) ∧ wr.ownsRow w.heap.size 9 1 v ss.length (strV ss) ∧ (ss ++ dl.map (·.1)).Perm (d.map (·.1)) ∧ v ≠ .slice none 0 0 ∧ Below w.heap.size w wr) (fun _ _ wr => leftV wr vd r)
  case atStart =>
    obtain ⟨h1, h2, h3, h4, h5, h6⟩ := H1.out
    refine ⟨d, [], h3, ?_, by simp, by simp, h2.trans (h4.mono (by omega))⟩
    exact own_keep h1 fun k hk => h4.block k (by rw [h5]; exact (h1.lt k hk).2)
  case round =>
    obtain ⟨dl, ss, hrg, hown, hperm, hnn, hbw⟩ := hrel
    have HRG : Hid (RangeV .string wr vd r (dv d) (dv dl)) := hrg
    have hsw := hbw.size
    have hlen : ss.length + dl.length = d.length := by have := hperm.length_eq; simpa using this
    have HLEN : Hid (ss.length + dl.length = d.length) := hlen
    have HPM : Hid ((ss ++ dl.map (·.1)).Perm (d.map (·.1))) := hperm
    rcases hrg.next (P := Tryz.prog) with ⟨hl0, hnx⟩ | ⟨pv, left', w2', hper2, _, hnx, hrg2, hgr, hs2, hen⟩
    · have hdl : dl = [] := by
        cases dl with
        | nil => rfl
        | cons _ _ => simp [dv] at hl0
      subst hdl
      obtain ⟨g, cap, rfl⟩ : ∃ g cap, u3 = .slice (some ⟨g, 0, none⟩) ss.length cap := by
        rcases hown.2 with ⟨h, _⟩ | ⟨g, cap, cur, hv, _⟩
        · exact absurd h hnn
        · exact ⟨g, cap, hv⟩
      have hgl := (hown.lt g rfl).1
      have hpm : ss.Perm (d.map (·.1)) := by simpa using hperm
      have HSO : Hid (Calls Tryz.prog 63 #[.slice (some ⟨g, 0, none⟩) ss.length cap] wr fun e w' => e = .returned (.tuple #[]) ∧ w'.ownsRow w.heap.size 9 1 (.slice (some ⟨g, 0, none⟩) ss.length cap) ss.length (strV (d.map (·.1))) ∧ wr.grownBy w' (some g)) := sort_c w.heap.size g cap ss d wr HD.out hpm hown (by have := HL.out; simp at hlen; omega)
      have HEQ : Hid (ss.length = d.length) := by show ss.length = d.length; simpa using hlen
      have HB : Hid (Below w.heap.size w wr) := hbw
      clear hrg hown hperm hnn hbw hlen hpm hl0 HRG
      go_wp2_with (go_at_call 63; refine HSO.out.mono ?_; rintro e w4 ⟨rfl, ho4, hg4⟩)
      go_ret
      exact ⟨⟨_, rfl, by rw [HEQ.out] at ho4 ⊢; exact ho4⟩, HB.out.grown hg4 hsw (fun k hk => by cases hk; exact hgl)⟩
    · obtain ⟨e, dl', hd, rfl, hl'⟩ := map_split (f := fun e : ByteArray × Nat => (Value.string e.1, Value.int .i64 e.2)) hper2
      have hrg3 : RangeV .string w2' vd r (dv d) (dv dl') := hrg2.perm hl'
      obtain ⟨nm, m⟩ := e
      simp only at hnx hen
      have hown2 : w2'.ownsRow w.heap.size 9 1 u3 ss.length (strV ss) := own_keep hown fun k hk => hgr.block k (hown.lt k hk).2 (fun e => by
        cases e
        obtain ⟨cur, hh⟩ := own_typed hown hk
        exact (hrg.ne_cells hh).1 rfl)
      have hb2 : Below w.heap.size w w2' := hbw.grown hgr hsw (fun k hk => by cases hk; exact hrlo)
      have hs2' : w.heap.size ≤ w2'.heap.size := by omega
      have hdl : dl.length = dl'.length + 1 := by rw [hd.length_eq]; simp
      have H2 : Hid (RangeV .string w2' vd r (dv d) (dv dl')) := hrg3
      have HB2 : Hid (Below w.heap.size w w2') := hb2
      have HDL : Hid (dl.Perm ((nm, m) :: dl')) := hd
      have hsl : ss.length + 1 ≤ 64 := by have := HL.out; have := HLEN.out; omega
      have HO2 : Hid (w2'.ownsRow w.heap.size 9 1 u3 ss.length (strV ss)) := hown2
      clear hrg hown hperm hnn hbw hlen hrg2 hgr hs2 hd hl' hper2 hrg3 hb2 hdl hsw hown2
      go_wp2_with (at_builtin; refine wpList_append_own _ rfl _ _ 24 rfl w.heap.size 9 i0 (.string ⟨#[]⟩) 1 16 Tryz.underlying24 hi hz0 hz1 hz2 rfl (by decide) _ _ _ rfl (HO2.out.alloc _) ⟨w2'.heap.size, 0, none⟩ 1 1 [.string nm] rfl rfl (cell_one_new _ _ _) (by intro u hu; simp at hu; subst hu; rfl) ?c3 ?c4 ?c5 ?_)
      case c3 => unfold maxLen; omega
      case c4 => omega
      case c5 => first | omega | (simp; omega)
      intro v' w3 hown' hgrow hnil
      have hrr := H2.out.lt
      have R3 : RangeV .string w3 vd r (dv d) (dv dl') := by
        have hne : ∀ k cur t fr, w2'.heap[k]? = some (.cells cur t fr) → r ≠ k ∧ ∀ b, vd = .map (some b) → b ≠ k := fun k cur t fr hk => H2.out.ne_cells hk
        refine H2.out.keep ((hgrow.block r (by simp; omega) (fun e => ?_)).trans (Lib.alloc_old _ _ r hrr.1)) fun b hb => (hgrow.block b (by have := hrr.2 b hb; simp; omega) (fun e => ?_)).trans (Lib.alloc_old _ _ b (hrr.2 b hb))
        · obtain ⟨cur, hh⟩ := own_typed HO2.out e.symm
          exact (hne _ _ _ _ hh).1 rfl
        · obtain ⟨cur, hh⟩ := own_typed HO2.out e.symm
          exact (hne _ _ _ _ hh).2 b hb rfl
      have hb3 : Below w.heap.size w w3 := (HB2.out.alloc (by omega) _).grown hgrow (by simp; omega) (fun k hk => (HO2.out.lt k hk).1)
      have hnil2 : v' ≠ .slice none 0 0 := fun h => by
        rcases hown'.2 with ⟨_, h0⟩ | ⟨g, cap, cur, hv, _⟩
        · omega
        · rw [hv] at h; cases h
      clear hgrow hnil
      go_wp2
      refine ⟨⟨dl', ss ++ [nm], R3, ?_, ?_, hnil2, hb3⟩, ?_⟩
      · have e1 : (ss ++ [nm]).length = ss.length + 1 := by simp
        have e2 : strV (ss ++ [nm]) = strV ss ++ [.string nm] := by simp [strV]
        rw [e1, e2]; exact hown'
      · refine List.Perm.trans ?_ HPM.out
        rw [List.append_assoc]
        exact ((HDL.out.map (·.1)).symm).append_left _
      · rw [R3.left_eq, HRG.out.left_eq, dv_len, dv_len, HDL.out.length_eq]; simp
end Go.Proofs.YtjbphheojfclcaaGreat

-- Used: the sum over the bodies that are there.
namespace Go.Proofs.YtjbphheojfclcaaGreat
open Go.RowKit
set_option linter.unusedVariables false
theorem BodyAt.below {w w' : World} {b : Nat} {x : Bd} (h : BodyAt w b x) {B : Nat} (hb : Below B w w') (hB : w.heap.size ≤ B) : BodyAt w' b x := by
  obtain ⟨cs, hh⟩ := h.blk
  refine h.keep (hb.block b (by have := blk_lt hh; omega)) fun k hk => ?_
  obtain ⟨c, fz, hh'⟩ := h.buf hk
  exact hb.block k (by have := blk_lt hh'; omega)
set_option maxHeartbeats 8000000 in
theorem pused_c (p : Nat) (vt : Value) (T : List (Nat × Nat)) (sz : Nat → Nat) (w : World) (c4 : w.cell? ⟨p, 4, none⟩ = some vt) (hm : MapV (.int .i64) w vt (bv T)) (hb : ∀ e ∈ T, ∃ x, BodyAt w e.2 x ∧ x.data.size = sz e.1) (hs : (T.map fun e => sz e.1).sum ≤ 1099511627776) :
    Calls Tryz.prog 73 #[.pointer (some ⟨p, 0, none⟩)] w fun e w' => e = .returned (.int .i64 ((T.map fun e => sz e.1).sum : Nat)) ∧ Below w.heap.size w w' := by
  obtain ⟨w1, hr1, hrg1, hb1, hs1⟩ := hm.range (P := Tryz.prog) Tryz.underlying100
  obtain ⟨r, hr⟩ : ∃ r, r = w.heap.size := ⟨_, rfl⟩
  rw [← hr] at hr1 hrg1 hb1 hs1 ⊢
  have HR : Hid (r = w.heap.size) := hr
  have HB : Hid (∀ e ∈ T, ∃ x, BodyAt w e.2 x ∧ x.data.size = sz e.1) := hb
  have H1 : Hid (RangeV (.int .i64) w1 vt r (bv T) (bv T) ∧ Below r w w1 ∧ w1.heap.size = r + 1) := ⟨hrg1, hb1, hs1⟩
  obtain ⟨tot, htot⟩ : ∃ n, n = (T.map fun e => sz e.1).sum := ⟨_, rfl⟩
  have HT : Hid (tot = (T.map fun e => sz e.1).sum) := htot
  rw [← htot] at hs ⊢
  clear hm hb hrg1 hb1 hs1 hr htot
  go_enter Tryz.func73, Tryz.ntmps73
  go_wp2_with (at_range; refine wp_range _ rfl _ 100 rfl _ _ rfl w1 hr1 ?_)
  go_frame
  clear hr1
  go_loopw [3, 5] (fun a _ wr => ∃ (tl : List (Nat × Nat)) (s : Nat), a = .int .i64 s ∧ RangeV (.int .i64) wr vt r (bv T) (bv tl) ∧ s + (tl.map fun e => sz e.1).sum = tot ∧ (∀ e ∈ tl, e ∈ T) ∧ Below r w wr) (fun _ _ wr => leftV wr vt r)
  case atStart => exact ⟨T, 0, rfl, H1.out.1, by rw [HT.out]; omega, fun _ h => h, H1.out.2.1⟩
  case round =>
    obtain ⟨tl, s, rfl, hrg, hsum, hsub, hbw⟩ := hrel
    have HRG : Hid (RangeV (.int .i64) wr vt r (bv T) (bv tl)) := hrg
    rcases hrg.next (P := Tryz.prog) with ⟨hl0, hnx⟩ | ⟨pv, left', w2, hper2, _, hnx, hrg2, hgr, hs2, hen⟩
    · have htl : tl = [] := by
        cases tl with
        | nil => rfl
        | cons _ _ => simp [bv] at hl0
      subst htl
      have hst : s = tot := by simpa using hsum
      subst hst
      have HBW : Hid (Below r w wr) := hbw
      clear hrg hl0 hsum hsub hbw
      go_wp2
      go_ret
      exact ⟨rfl, HBW.out⟩
    · obtain ⟨e, tl', hd, rfl, hl'⟩ := map_split (f := fun e : Nat × Nat => (Value.int .i64 e.1, Value.pointer (some ⟨e.2, 0, none⟩))) hper2
      have hrg3 : RangeV (.int .i64) w2 vt r (bv T) (bv tl') := hrg2.perm hl'
      have hein : e ∈ T := hsub e (hd.mem_iff.2 (by simp))
      obtain ⟨n, b⟩ := e
      obtain ⟨x, hx, hxs⟩ := HB.out _ hein
      simp only at hnx hen hx hxs
      have hb2 : Below r w w2 := hbw.grown hgr (by have := HR.out; have := hbw.size; omega) (fun k hk => by cases hk; exact Nat.le_refl _)
      have hx2 : BodyAt w2 b x := hx.below hb2 (by rw [HR.out]; exact Nat.le_refl _)
      have hsum' : s + sz n + (tl'.map fun e => sz e.1).sum = tot := by
        have := (hd.map fun e : Nat × Nat => sz e.1).sum_nat
        rw [List.map_cons, List.sum_cons] at this
        simp only at this
        omega
      have HLE : Hid (BodyAt w2 b x) := hx2
      have H2 : Hid ((∀ e ∈ tl', e ∈ T) ∧ RangeV (.int .i64) w2 vt r (bv T) (bv tl') ∧ Below r w w2 ∧ s + sz n + (tl'.map fun e => sz e.1).sum = tot ∧ tl.length = tl'.length + 1) := ⟨fun f hf => hsub f (hd.mem_iff.2 (List.mem_cons_of_mem _ hf)), hrg3, hb2, hsum', by rw [hd.length_eq]; simp⟩
      have hxl : x.data.size ≤ 1099511627776 ∧ s + x.data.size ≤ 1099511627776 := by omega
      have hwr : IntKind.i64.wrap ((s : Int) + (x.data.size : Int)) = ((s + x.data.size : Nat) : Int) := by rw [wrap_i64 (by omega)]; omega
      have HXS : Hid (x.data.size = sz n) := hxs
      clear hrg hsum hsub hbw hrg2 hgr hs2 hd hl' hper2 hrg3 hx hx2 hb2 hsum' hein hxs
      go_wp2_with (go_at_call 69; refine (blen_c b x _ HLE.out).mono ?_; rintro e w3 ⟨rfl, hw3⟩; subst w3)
      obtain ⟨q1, q2, q3, q4, q5⟩ := H2.out
      refine ⟨⟨tl', s + sz n, by rw [← HXS.out]; simp, q2, q4, q1, q3⟩, ?_⟩
      rw [q2.left_eq, HRG.out.left_eq, bv_len, bv_len]; omega
end Go.Proofs.YtjbphheojfclcaaGreat
