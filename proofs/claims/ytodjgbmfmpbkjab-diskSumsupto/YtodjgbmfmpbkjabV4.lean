-- disk.isName: what a file's name is.
import Derived.Test.YtodjgbmfmpbkjabShelf
import Derived.Test.YtodjgbmfmpbkjabV2
import Derived.BigCall
import Derived.BigRegion
import Derived.Deep.LoopGhost
import Derived.WalkMore
import Derived.LoopN
namespace Go.Proofs.Ytodjgbmfmpbkjab
open Go.RowKit
set_option linter.unusedVariables false
set_option linter.unusedSimpArgs false
def chs : ByteArray := ⟨#[47, 0]⟩
theorem any_ok (l : List UInt8) : decide (0 ≤ Lib.indexAny l [47, 0]) = !l.all okByte := by
  induction l with
  | nil => rfl
  | cons b r ih =>
    have hge := Lib.indexAny_ge [47, 0] r
    rw [Lib.indexAny, List.all_cons]
    have hc : ([47, 0] : List UInt8).contains b = !okByte b := by
      unfold okByte
      simp only [List.contains_cons, List.contains_nil, bne]
      cases (b == 47) <;> cases (b == 0) <;> rfl
    rw [hc]
    cases hb : okByte b
    · simp
    · simp only [Bool.not_true, Bool.false_eq_true, if_false, Bool.true_and, ← ih]
      by_cases hm : Lib.indexAny r [47, 0] = -1
      · rw [hm]; rfl
      · rw [if_neg (by simpa using hm)]
        exact decide_eq_decide.2 (by omega)
theorem no_ok {l : List UInt8} (h : Lib.NoAny l [47, 0] l.length) : l.all okByte = true := by
  have := any_ok l
  rw [Lib.indexAny_none h] at this
  simpa using this.symm
theorem hit_ok {l : List UInt8} {i : Nat} {x : UInt8} (hx : l[i]? = some x) (h : ([47, 0] : List UInt8).contains x = true) : l.all okByte = false := by
  rw [List.all_eq_false]
  refine ⟨x, List.mem_of_getElem? hx, ?_⟩
  unfold okByte
  simp only [List.contains_cons, List.contains_nil] at h
  simp only [bne]
  revert h
  cases (x == 47) <;> cases (x == 0) <;> simp
theorem big_no {b : UInt8} (h : 128 ≤ b.toNat) : ([47, 0] : List UInt8).contains b = false := by
  have h1 : (b == 47) = false := by
    refine beq_eq_false_iff_ne.2 fun e => ?_
    subst e; revert h; decide
  have h2 : (b == 0) = false := by
    refine beq_eq_false_iff_ne.2 fun e => ?_
    subst e; revert h; decide
  simp only [List.contains_cons, List.contains_nil, h1, h2]; rfl
theorem get_bang (s : ByteArray) (j : Nat) (h : j < s.size) : s.data.toList[j]? = some (s.get! j) := by
  rw [Lib.data_getElem? s j h]
  simp [ByteArray.get!, getElem!_pos, h]
  rfl
theorem decode_hi (s : ByteArray) (i : Nat) (hi : i < s.size) (h0 : 128 ≤ (s.get! i).toNat) : 128 ≤ (Utf8.decode s i).1 ∧ (Utf8.decode s i).1 ≤ 1114111 ∧ 1 ≤ (Utf8.decode s i).2 ∧ i + (Utf8.decode s i).2 ≤ s.size ∧ ∀ j, i ≤ j → j < i + (Utf8.decode s i).2 → 128 ≤ (s.get! j).toNat := by
  have hb : ∀ j, (s.get! j).toNat < 256 := fun j => (s.get! j).toNat_lt
  have hb0 := hb (i + 0)
  have one : ∀ j, i ≤ j → j < i + 1 → 128 ≤ (s.get! j).toNat := fun j h1 h2 => by obtain rfl : j = i := by omega
                                                                                  exact h0
  unfold Utf8.decode
  simp only [Nat.add_zero]
  rw [if_neg (by omega)]
  split
  · rename_i h
    simp only [Bool.and_eq_true, beq_iff_eq, decide_eq_true_eq] at h
    split
    · rename_i hc
      have := hb (i + 1)
      refine ⟨by simpa using hc, by simp only; omega, by simp, by simp only; omega, fun j h1 h2 => ?_⟩
      simp only at h2
      rcases (by omega : j = i ∨ j = i + 1) with rfl | rfl
      · exact h0
      · omega
    · exact ⟨by simp [Utf8.runeError], by simp [Utf8.runeError], by simp, by simp only; omega, one⟩
  · split
    · rename_i _ h
      simp only [Bool.and_eq_true, beq_iff_eq, decide_eq_true_eq] at h
      have := hb (i + 1); have := hb (i + 2)
      split
      · rename_i hc
        simp only [Bool.and_eq_true, decide_eq_true_eq] at hc
        refine ⟨by simp only; omega, by simp only; omega, by simp, by simp only; omega, fun j h1 h2 => ?_⟩
        simp only at h2
        rcases (by omega : j = i ∨ j = i + 1 ∨ j = i + 2) with rfl | rfl | rfl
        · exact h0
        · omega
        · omega
      · exact ⟨by simp [Utf8.runeError], by simp [Utf8.runeError], by simp, by simp only; omega, one⟩
    · split
      · rename_i _ _ h
        simp only [Bool.and_eq_true, beq_iff_eq, decide_eq_true_eq] at h
        have := hb (i + 1); have := hb (i + 2); have := hb (i + 3)
        split
        · rename_i hc
          simp only [Bool.and_eq_true, decide_eq_true_eq] at hc
          have hv := hc.2
          unfold Utf8.valid at hv
          simp only [Bool.or_eq_true, Bool.and_eq_true, decide_eq_true_eq] at hv
          refine ⟨by simp only; omega, by simp only; omega, by simp, by simp only; omega, fun j h1 h2 => ?_⟩
          simp only at h2
          rcases (by omega : j = i ∨ j = i + 1 ∨ j = i + 2 ∨ j = i + 3) with rfl | rfl | rfl | rfl
          · exact h0
          · omega
          · omega
          · omega
        · exact ⟨by simp [Utf8.runeError], by simp [Utf8.runeError], by simp, by simp only; omega, one⟩
      · exact ⟨by simp [Utf8.runeError], by simp [Utf8.runeError], by simp, by simp only; omega, one⟩
def stepIt (w : World) (r : Nat) (s : ByteArray) (pos : Nat) : World := { w with heap := w.heap.setIfInBounds r (.stringIter s pos) }
theorem next_str {P : Program} (w : World) (r : Nat) (s : ByteArray) (pos : Nat) (ty : TypeId) (hr : w.heap[r]? = some (.stringIter s pos)) (h : pos < s.size) :
    (Instr.next (.pointer (some ⟨r, 0, none⟩)) true ty).run P w = .ok (.tuple #[.bool true, .int .i64 pos, .int .i32 (Utf8.decode s pos).1]) (stepIt w r s (pos + (Utf8.decode s pos).2)) := by
  simp only [Instr.next, getObj, setObj, Sem.run_bind, Sem.run, hr, Result.andThen, h, if_true]
  simp [goInt, Sem.run, hr, stepIt]
theorem next_str_end {P : Program} (w : World) (r : Nat) (s : ByteArray) (pos : Nat) (ty : TypeId) (hr : w.heap[r]? = some (.stringIter s pos)) (h : ¬ pos < s.size) :
    (Instr.next (.pointer (some ⟨r, 0, none⟩)) true ty).run P w = .ok (.tuple #[.bool false]) w := by
  simp [Instr.next, getObj, Sem.run, hr, h]
theorem stepIt_at {w : World} {r : Nat} {s : ByteArray} {pos : Nat} (hr : w.heap[r]? = some (.stringIter s pos)) (q : Nat) : (stepIt w r s q).heap[r]? = some (.stringIter s q) := (MapKept.heap_set hr).1
theorem stepIt_below {B r : Nat} {w0 w : World} (h : Below B w0 w) (hr : B ≤ r) (s : ByteArray) (q : Nat) : Below B w0 (stepIt w r s q) :=
  ⟨h.os, h.tape, h.output, by have := h.size; simpa [stepIt] using this, fun k hk => by
    have e : (stepIt w r s q).heap[k]? = w.heap[k]? := by simp [stepIt, Array.getElem?_setIfInBounds, (show ¬ r = k by omega)]
    rw [e]; exact h.block k hk⟩
def itLeft (w : World) (r : Nat) : Nat := match w.heap[r]? with | some (.stringIter s pos) => s.size - pos | _ => 0
theorem itLeft_eq {w : World} {r : Nat} {s : ByteArray} {pos : Nat} (hr : w.heap[r]? = some (.stringIter s pos)) : itLeft w r = s.size - pos := by simp [itLeft, hr]
theorem blk_lt' {w : World} {b : Nat} {o : Obj} (h : w.heap[b]? = some o) : b < w.heap.size := (Array.getElem?_eq_some_iff.1 h).1
theorem enc_two (r : Int) (h0 : 128 ≤ r) (h1 : r < 2048) : ∃ b c : UInt8, Utf8.encode r = ⟨#[b, c]⟩ ∧ 128 ≤ c.toNat := by
  refine ⟨UInt8.ofNat (0xC0 + r.toNat / 64), UInt8.ofNat (0x80 + r.toNat % 64), ?_, ?_⟩
  · unfold Utf8.encode
    have hv : Utf8.valid r = true := by unfold Utf8.valid; simp; omega
    rw [if_pos hv, if_neg (by omega), if_pos (by omega)]
  · simp; omega
theorem enc_more (r : Int) (h0 : 2048 ≤ r) : 3 ≤ (Utf8.encode r).size := by
  unfold Utf8.encode
  have hc : 2048 ≤ (if Utf8.valid r then r.toNat else Utf8.runeError) := by
    split
    · omega
    · simp [Utf8.runeError]
  obtain ⟨c, hcc⟩ : ∃ c, c = (if Utf8.valid r then r.toNat else Utf8.runeError) := ⟨_, rfl⟩
  rw [← hcc] at hc ⊢
  simp only
  rw [if_neg (by omega), if_neg (by omega)]
  split
  · show 3 ≤ 3; omega
  · show 3 ≤ 4; omega
set_option maxHeartbeats 4000000 in
set_option maxRecDepth 100000 in
theorem rune_err (w : World) :
    Calls Try.prog 83 #[.string ⟨#[47, 0]⟩, .int .i32 65533] w fun e w' => e = .returned (.int .i64 (-1)) ∧ Below w.heap.size w w' := by
  have h0 := run_next_ascii (P := Try.prog) w ⟨#[47, 0]⟩ 0
  have h1 := run_next_ascii (P := Try.prog) w ⟨#[47, 0]⟩ 1
  have h2 := run_next_end (P := Try.prog) w ⟨#[47, 0]⟩ 2
  have e0 : ∀ ty, (Instr.next (.pointer (some ⟨w.heap.size, 0, none⟩)) true ty).run Try.prog (w.iter ⟨#[47, 0]⟩ 0) = .ok (.tuple #[.bool true, .int .i64 0, .int .i32 47]) (w.iter ⟨#[47, 0]⟩ 1) := fun ty => h0 ty (by decide) (by decide)
  have e1 : ∀ ty, (Instr.next (.pointer (some ⟨w.heap.size, 0, none⟩)) true ty).run Try.prog (w.iter ⟨#[47, 0]⟩ 1) = .ok (.tuple #[.bool true, .int .i64 1, .int .i32 0]) (w.iter ⟨#[47, 0]⟩ 2) := fun ty => h1 ty (by decide) (by decide)
  have e2 : ∀ ty, (Instr.next (.pointer (some ⟨w.heap.size, 0, none⟩)) true ty).run Try.prog (w.iter ⟨#[47, 0]⟩ 2) = .ok (.tuple #[.bool false]) (w.iter ⟨#[47, 0]⟩ 2) := fun ty => h2 ty (by decide)
  have HB : Hid (∀ k, Below w.heap.size w (w.iter ⟨#[47, 0]⟩ k)) := fun k => (Below.refl _ w).alloc (Nat.le_refl _) _
  clear h0 h1 h2
  go_enter Try.func83, Try.ntmps83
  go_wp2
  go_loopg [5, 6] 2 (fun g _ _ wx => wx = w.iter ⟨#[47, 0]⟩ (2 - g) ∧ g ≤ 2)
  case atStart => exact ⟨rfl, Nat.le_refl _⟩
  case round =>
    obtain ⟨rfl, hg⟩ := hrel
    match gk, hg with
    | 0, _ =>
      go_wp2
      go_ret
      exact ⟨rfl, HB.out _⟩
    | 1, _ =>
      go_wp2
      go_roundg 0
      case measure => omega
      case rel => exact ⟨rfl, by omega⟩
    | 2, _ =>
      go_wp2
      go_roundg 1
      case measure => omega
      case rel => exact ⟨rfl, by omega⟩
set_option maxHeartbeats 4000000 in
set_option maxRecDepth 100000 in
theorem rune_two (r : Int) (h0 : 128 ≤ r) (h1 : r < 2048) (w : World) :
    Calls Try.prog 83 #[.string ⟨#[47, 0]⟩, .int .i32 r] w fun e w' => e = .returned (.int .i64 (-1)) ∧ Below w.heap.size w w' := by
  obtain ⟨b, c, he, hc⟩ := enc_two r h0 h1
  have hs : (⟨#[b, c]⟩ : ByteArray).size = 2 := rfl
  have hcv : ∀ W, (convert 21 9 (.int .i32 r)).run Try.prog W = .ok (.string ⟨#[b, c]⟩) W := fun W => by rw [run_convert_int_string W 21 9 .i32 r (by rw [Try.underlying21]; rfl) Try.underlying9, he]
  clear he
  have hi1 : ∀ W, (Instr.index 9 (.string ⟨#[47, 0]⟩) (.int .i64 1)).run Try.prog W = .ok (.int .u8 0) W := fun W => by kernel_rfl
  have hi2 : ∀ W, (Instr.index 9 (.string ⟨#[b, c]⟩) (.int .i64 1)).run Try.prog W = .ok (.int .u8 c.toNat) W := fun W => by
    have := run_index_string (P := Try.prog) W 9 ⟨#[b, c]⟩ .i64 1 Try.underlying9
    rw [dif_pos (by rw [hs]; decide)] at this
    exact this
  have hw2 : IntKind.i64.wrap 2 = 2 := by decide
  have hIB : Hid (∀ W, Calls Try.prog 100 #[.string ⟨#[]⟩, .int .u8 c.toNat] W fun e w' => e = .returned (.int .i64 (-1)) ∧ w' = W) := fun W => (Try.strings_IndexByte ⟨#[]⟩ c.toNat W).mono fun e w' h => by simpa [Lib.indexByte] using h
  have hne : ((0 : Int) != (c.toNat : Int)) = true := by simp; omega
  have hsl : ∀ W, (Instr.slice 9 (.string ⟨#[47, 0]⟩) (some (.int .i64 2)) none none).run Try.prog W = .ok (.string ⟨#[]⟩) W := fun W => by kernel_rfl
  go_enter Try.func83, Try.ntmps83
  go_wp2_with (go_at_call 101; refine (Try.utf8_ValidRune _ _).mono ?_; rintro e w1 ⟨rfl, hw1⟩; subst w1)
  · go_ret
    exact ⟨rfl, Below.refl _ _⟩
  · go_step3
    go_wp2
    refine wp_loop_rounds 1 ?_
    rw [rounds_succ]
    go_wp2
    go_step3
    go_wp2_with fail
    go_quiet (fail)
    go_wp2_with fail
    obtain ⟨W, hW⟩ : ∃ W, W = w.drewN nq := ⟨_, rfl⟩
    have HW : Hid (Below w.heap.size w W) := by rw [hW]; exact below_drewN (Below.refl _ _) _
    rw [← hW]
    clear hW
    go_quiet (first | (go_at_call 100; exact Calls.quiet_of_same (hIB.out _)))
    go_wp2
    rw [Exit.noGoto_ret]
    go_wp2
    rw [Exit.noGoto_ret]
    go_wp2
    go_ret
    exact ⟨rfl, below_drewN HW.out _⟩
theorem enc_size (r : Int) : (Utf8.encode r).size ≤ 4 := by
  unfold Utf8.encode
  obtain ⟨c, hcc⟩ : ∃ c, c = (if Utf8.valid r then r.toNat else Utf8.runeError) := ⟨_, rfl⟩
  rw [← hcc]
  simp only
  split
  · show 1 ≤ 4; omega
  · split
    · show 2 ≤ 4; omega
    · split
      · show 3 ≤ 4; omega
      · show 4 ≤ 4; omega
set_option maxHeartbeats 4000000 in
set_option maxRecDepth 100000 in
theorem rune_more (r : Int) (h0 : 2048 ≤ r) (hne : r ≠ 65533) (w : World) :
    Calls Try.prog 83 #[.string ⟨#[47, 0]⟩, .int .i32 r] w fun e w' => e = .returned (.int .i64 (-1)) ∧ Below w.heap.size w w' := by
  have hs3 := enc_more r h0
  have hs4 := enc_size r
  obtain ⟨S, he⟩ : ∃ S, S = Utf8.encode r := ⟨_, rfl⟩
  have hcv : ∀ W, (convert 21 9 (.int .i32 r)).run Try.prog W = .ok (.string S) W := fun W => by rw [run_convert_int_string W 21 9 .i32 r (by rw [Try.underlying21]; rfl) Try.underlying9, he]
  rw [← he] at hs3 hs4
  clear he
  have b1 : (r == 65533) = false := by simpa using hne
  have b2 : decide ((S.size : Int) - 1 < 2) = false := decide_eq_false (by omega)
  have hw1 : IntKind.i64.wrap ((S.size : Int) - 1) = (S.size : Int) - 1 := wrap_i64 (by omega)
  clear hne
  go_enter Try.func83, Try.ntmps83
  go_wp2_with (go_at_call 101; refine (Try.utf8_ValidRune _ _).mono ?_; rintro e w1 ⟨rfl, hw1⟩; subst w1)
  · go_ret
    exact ⟨rfl, Below.refl _ _⟩
  · go_step3
    go_wp2
    refine wp_loop_rounds 1 ?_
    rw [rounds_succ]
    go_wp2
    all_goals (try (rw [Exit.noGoto_ret]; go_wp2))
    all_goals go_ret
    all_goals exact ⟨rfl, Below.refl _ _⟩
theorem rune_hi (r : Int) (h0 : 128 ≤ r) (w : World) :
    Calls Try.prog 83 #[.string ⟨#[47, 0]⟩, .int .i32 r] w fun e w' => e = .returned (.int .i64 (-1)) ∧ Below w.heap.size w w' := by
  by_cases h : r = 65533
  · subst h; exact rune_err w
  · by_cases h2 : r < 2048
    · exact rune_two r h0 h2 w
    · exact rune_more r (by omega) h w
theorem zero256 : (Try.prog.info? 141).map (·.zero) = some (some (.agg (Array.replicate 256 (.bool false)))) := by kernel_rfl
theorem zero256r (w : World) : (zeroValue 141).run Try.prog w = .ok (.agg (Array.replicate 256 (.bool false))) w := by
  obtain ⟨j, hj, hz⟩ := Option.map_eq_some_iff.1 zero256
  simp [zeroValue, typeInfo, hj, hz]
set_option maxHeartbeats 4000000 in
set_option maxRecDepth 100000 in
theorem any_short (s : ByteArray) (w : World) (h8 : s.size ≤ 8) :
    Calls Try.prog 69 #[.string s, .string ⟨#[47, 0]⟩] w fun e w' => ∃ n : Int, e = .returned (.int .i64 n) ∧ decide (0 ≤ n) = !s.data.toList.all okByte ∧ Below w.heap.size w w' := by
  have h8z : decide ((8 : Int) < (s.size : Int)) = false := decide_eq_false (by omega)
  have HC0 : Hid ((⟨#[47, 0]⟩ : ByteArray).data.toList = [47, 0]) := rfl
  have hrg : (Instr.range 9 (.string s)).run Try.prog w = .ok (.pointer (some ⟨w.heap.size, 0, none⟩)) (w.alloc (.stringIter s 0)) := run_range_string w 9 s Try.underlying9
  have HB0 : Hid ((w.alloc (.stringIter s 0)).heap[w.heap.size]? = some (.stringIter s 0) ∧ Below w.heap.size w (w.alloc (.stringIter s 0))) := ⟨heap_alloc_new w _, (Below.refl _ w).alloc (Nat.le_refl _) _⟩
  go_enter Try.func69, Try.ntmps69
  go_wp2_with (go_at_call 84; refine (Try.strings_shouldUseASCIISet _ _).mono ?_; rintro e w1 ⟨rfl, hw1⟩; subst w1; rw [h8z])
  go_loopw [9, 10] (fun _ _ wx => ∃ i : Nat, i ≤ s.size ∧ wx.heap[w.heap.size]? = some (.stringIter s i) ∧ Below w.heap.size w wx ∧ Lib.NoAny s.data.toList [47, 0] i) (fun _ _ wx => itLeft wx w.heap.size)
  case atStart => exact ⟨0, Nat.zero_le _, HB0.out.1, HB0.out.2, Lib.NoAny.zero _ _⟩
  case round =>
    obtain ⟨i, hi, hit, hbw, hno⟩ := hrel
    have HN : Hid (Lib.NoAny s.data.toList [47, 0] i) := hno
    have HIT : Hid (wr.heap[w.heap.size]? = some (.stringIter s i)) := hit
    have HBW : Hid (Below w.heap.size w wr) := hbw
    by_cases hlt : i < s.size
    · have hnx := fun ty => next_str (P := Try.prog) wr w.heap.size s i ty hit hlt
      have hgb := get_bang s i hlt
      by_cases hlo : (s.get! i).toNat < 128
      · have hd : Utf8.decode s i = ((s.get! i).toNat, 1) := by unfold Utf8.decode; simp only [Nat.add_zero]; rw [if_pos hlo]
        obtain ⟨x, hx⟩ : ∃ x, x = s.get! i := ⟨_, rfl⟩
        rw [hd] at hnx
        rw [← hx] at hnx hgb hlo
        simp only at hnx
        have HX : Hid (s.data.toList[i]? = some x) := hgb
        obtain ⟨w2, hw2⟩ : ∃ w2, w2 = stepIt wr w.heap.size s (i + 1) := ⟨_, rfl⟩
        have H2 : Hid (w2.heap[w.heap.size]? = some (.stringIter s (i + 1)) ∧ Below w.heap.size w w2) := by rw [hw2]; exact ⟨stepIt_at hit _, stepIt_below hbw (Nat.le_refl _) _ _⟩
        rw [← hw2] at hnx
        have hcon := Lib.contains_iff_indexByte [47, 0] x
        have HR : Hid (∀ W, Calls Try.prog 83 #[.string ⟨#[47, 0]⟩, .int .i32 x.toNat] W fun e w' => e = .returned (.int .i64 (Lib.indexByte [47, 0] x)) ∧ w' = W) := fun W => (Try.strings_IndexRune_ascii ⟨#[47, 0]⟩ x.toNat W (by omega) (by omega)).mono fun e w' h => by simpa using h
        obtain ⟨q, hq⟩ : ∃ q, q = Lib.indexByte [47, 0] x := ⟨_, rfl⟩
        rw [← hq] at hcon HR
        clear hit hbw hno hgb hd hx hw2 hq
        cases hin : ([47, 0] : List UInt8).contains x
        · have hb : decide (0 ≤ q) = false := by rw [← hcon, hin]
          have HIN : Hid (([47, 0] : List UInt8).contains x = false) := hin
          clear hcon hin
          go_wp2_with (go_at_call 83; refine (HR.out _).mono ?_; rintro e w3 ⟨rfl, hw3⟩; subst w3)
          refine ⟨⟨i + 1, hlt, H2.out.1, H2.out.2, HN.out.succ HX.out HIN.out⟩, ?_⟩
          rw [itLeft_eq H2.out.1, itLeft_eq HIT.out]; omega
        · have hb : decide (0 ≤ q) = true := by rw [← hcon, hin]
          have HIN : Hid (([47, 0] : List UInt8).contains x = true) := hin
          clear hcon hin
          go_wp2_with (go_at_call 83; refine (HR.out _).mono ?_; rintro e w3 ⟨rfl, hw3⟩; subst w3)
          go_ret
          exact ⟨i, rfl, by rw [hit_ok HX.out HIN.out]; simp, H2.out.2⟩
      · obtain ⟨d1, d2, d3, d4, d5⟩ := decode_hi s i hlt (by omega)
        obtain ⟨c, hc⟩ : ∃ c, c = (Utf8.decode s i).1 := ⟨_, rfl⟩
        obtain ⟨k, hk⟩ : ∃ k, k = (Utf8.decode s i).2 := ⟨_, rfl⟩
        rw [← hc, ← hk] at hnx
        rw [← hc] at d1
        rw [← hk] at d3 d4 d5
        have HNO : Hid (Lib.NoAny s.data.toList [47, 0] (i + k)) := fun j b hj hb => by
          by_cases hji : j < i
          · exact HN.out j b hji hb
          · have := d5 j (by omega) hj
            rw [get_bang s j (by omega)] at hb
            cases hb
            exact big_no this
        obtain ⟨w2, hw2⟩ : ∃ w2, w2 = stepIt wr w.heap.size s (i + k) := ⟨_, rfl⟩
        have H2 : Hid (w2.heap[w.heap.size]? = some (.stringIter s (i + k)) ∧ Below w.heap.size w w2) := by rw [hw2]; exact ⟨stepIt_at hit _, stepIt_below hbw (Nat.le_refl _) _ _⟩
        rw [← hw2] at hnx
        have HR : Hid (∀ W, Calls Try.prog 83 #[.string ⟨#[47, 0]⟩, .int .i32 c] W fun e w' => e = .returned (.int .i64 (-1)) ∧ Below W.heap.size W w') := fun W => rune_hi c (by omega) W
        clear hit hbw hno hgb hw2 hc hk d2 d5 hlo
        go_wp2_with (go_at_call 83; refine (HR.out _).mono ?_; rintro e w3 ⟨rfl, hb3⟩)
        have h2l : w.heap.size < w2.heap.size := blk_lt' H2.out.1
        have hit3 : w3.heap[w.heap.size]? = some (.stringIter s (i + k)) := (hb3.block _ h2l).trans H2.out.1
        refine ⟨⟨i + k, d4, hit3, H2.out.2.trans (hb3.mono (Nat.le_of_lt h2l)), HNO.out⟩, ?_⟩
        rw [itLeft_eq hit3, itLeft_eq HIT.out]; omega
    · obtain rfl : i = s.size := by omega
      have hnx := fun ty => next_str_end (P := Try.prog) wr w.heap.size s s.size ty hit hlt
      clear hit hbw hno
      go_wp2
      go_ret
      refine ⟨-1, rfl, ?_, HBW.out⟩
      rw [no_ok (by rw [← Lib.size_eq]; exact HN.out)]; rfl
theorem any_c (s : ByteArray) (w : World) (hs : s.size ≤ 64) :
    Calls Try.prog 69 #[.string s, .string ⟨#[47, 0]⟩] w fun e w' => ∃ n : Int, e = .returned (.int .i64 n) ∧ decide (0 ≤ n) = !s.data.toList.all okByte ∧ Below w.heap.size w w' := by
  by_cases h : s.size ≤ 8
  · exact any_short s w h
  · refine (Try.strings_IndexAny_long zero256r s ⟨#[47, 0]⟩ w (by decide) (by omega) (by omega) (by decide) ?_).mono ?_
    · intro j b hb
      match j, hb with
      | 0, hb => simp at hb; subst hb; decide
      | 1, hb => simp at hb; subst hb; decide
      | j + 2, hb => simp at hb
    · rintro e w' ⟨rfl, rfl⟩
      exact ⟨_, rfl, any_ok _, ((Below.refl _ w).alloc (Nat.le_refl _) _).alloc (by simp) _⟩
set_option maxHeartbeats 1000000 in
theorem contains_c (s : ByteArray) (w : World) (hs : s.size ≤ 64) :
    Calls Try.prog 45 #[.string s, .string ⟨#[47, 0]⟩] w fun e w' => e = .returned (.bool (!s.data.toList.all okByte)) ∧ Below w.heap.size w w' := by
  have HA : Hid (∀ W, Calls Try.prog 69 #[.string s, .string ⟨#[47, 0]⟩] W fun e w' => ∃ n : Int, e = .returned (.int .i64 n) ∧ decide (0 ≤ n) = !s.data.toList.all okByte ∧ Below W.heap.size W w') := fun W => any_c s W hs
  obtain ⟨q, hq⟩ : ∃ q, q = !s.data.toList.all okByte := ⟨_, rfl⟩
  rw [← hq] at HA ⊢
  clear hq
  go_enter Try.func45, Try.ntmps45
  go_wp2_with (go_at_call 69; refine (HA.out _).mono ?_; rintro e w1 ⟨n, rfl, hn, hb⟩)
  go_ret
  exact ⟨rfl, hb⟩
set_option maxHeartbeats 1000000 in
theorem isName_c (s : ByteArray) (w : World) :
    Calls Try.prog 24 #[.string s] w fun e w' => e = .returned (.bool (okName s)) ∧ Below w.heap.size w w' := by
  by_cases h0 : s = ⟨#[]⟩
  · subst h0
    go_enter Try.func24, Try.ntmps24
    go_wp2
    go_ret
    exact ⟨rfl, Below.refl _ _⟩
  · have h1 := empty_no h0
    have hs1 : 1 ≤ s.size := by
      rcases Nat.eq_zero_or_pos s.size with h | h
      · exact absurd (by cases s with | mk d => have e : d = #[] := Array.eq_empty_of_size_eq_zero h; rw [e]) h0
      · exact h
    have hl : s.toList.isEmpty = false := by
      cases h : s.toList with
      | nil => exact absurd h h1
      | cons _ _ => rfl
    by_cases h64 : s.size ≤ 64
    · have b1 : decide ((s.size : Int) ≤ 64) = true := decide_eq_true (by omega)
      have HA : Hid (∀ W, Calls Try.prog 45 #[.string s, .string ⟨#[47, 0]⟩] W fun e w' => e = .returned (.bool (!s.data.toList.all okByte)) ∧ Below W.heap.size W w') := fun W => contains_c s W h64
      have HE : Hid (okName s = s.data.toList.all okByte) := by show okName s = _; unfold okName; simp [hs1, h64]
      obtain ⟨q, hq⟩ : ∃ q, q = s.data.toList.all okByte := ⟨_, rfl⟩
      rw [← hq] at HA HE
      rw [HE.out]
      clear hq HE h0
      go_enter Try.func24, Try.ntmps24
      go_wp2_with (go_at_call 45; refine (HA.out _).mono ?_; rintro e w1 ⟨rfl, hb⟩)
      go_ret
      exact ⟨by simp, hb⟩
    · have b1 : decide ((s.size : Int) ≤ 64) = false := decide_eq_false (by omega)
      have HE : Hid (okName s = false) := by show okName s = false; unfold okName; simp [h64]
      rw [HE.out]
      clear HE h0
      go_enter Try.func24, Try.ntmps24
      go_wp2
      go_ret
      exact ⟨rfl, Below.refl _ _⟩
end Go.Proofs.Ytodjgbmfmpbkjab
