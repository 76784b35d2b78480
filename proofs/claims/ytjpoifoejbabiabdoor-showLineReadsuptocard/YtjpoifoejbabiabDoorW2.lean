
import Derived.Test.YtjpoifoejbabiabDoorW1
import Derived.Lib.UnsafeStr
import Derived.Laws.IdiomStrings
import Derived.Laws.BytesArg
namespace Go.Proofs.YtjpoifoejbabiabDoor
open Go.RowKit
set_option linter.unusedVariables false
set_option maxRecDepth 100000
def lst (s : ByteArray) : List UInt8 := s.data.toList
theorem lst_len (s : ByteArray) : (lst s).length = s.size := by simp [lst]
theorem drop_at (s : ByteArray) (k : Nat) (h : k < s.size) : (lst s).drop k = s[k] :: (lst s).drop (k + 1) := by
  have hl := lst_len s
  rw [List.drop_eq_getElem_cons (by omega)]; rfl
theorem drop_end (s : ByteArray) : (lst s).drop s.size = [] := List.drop_eq_nil_of_le (by rw [lst_len]; exact Nat.le_refl _)
/-- A word is whole where a parting byte or the line's end stands. -/
theorem scan_close (s : ByteArray) (k : Nat) (hk : k ≤ s.size) (hp : ∀ h : k < s.size, partsB s[k] = true) (wd : List UInt8) (ws : List ByteArray) :
    scanL ((lst s).drop k) k none true wd ws = scanL ((lst s).drop k) k none false [] (ws ++ [strB wd]) := by
  by_cases h : k < s.size
  · rw [drop_at s k h, scan_part _ _ _ _ _ (hp h), scan_part _ _ _ _ _ (hp h)]; simp [endW]
  · obtain rfl : k = s.size := by omega
    rw [drop_end, scan_nil, scan_nil]; simp [endW]
theorem skip_c (s : ByteArray) (a : Nat) (w : World) (ha : a ≤ s.size) (hm : s.size < 140737488355328) :
    Calls Tryd.prog 22 #[.string s, .int .i64 a] w fun e w' => ∃ k : Nat, e = .returned (.int .i64 k) ∧ w' = w ∧ a ≤ k ∧ k ≤ s.size ∧ (∀ h : k < s.size, partsB s[k] = false) ∧
      ∀ ws, scanL ((lst s).drop a) a none false [] ws = scanL ((lst s).drop k) k none false [] ws := by
  have HP : Hid (∀ (c : UInt8) w, Calls Tryd.prog 43 #[.int .u8 c.toNat] w fun e w' => e = .returned (.bool (partsB c)) ∧ w' = w) := fun c w => parts_c c w
  go_enter Tryd.func22, Tryd.ntmps22
  go_wp2
  go_loop [1] (fun i => ∃ k : Nat, i = .int .i64 k ∧ a ≤ k ∧ k ≤ s.size ∧ ∀ ws, scanL ((lst s).drop a) a none false [] ws = scanL ((lst s).drop k) k none false [] ws) (fun i => s.size - (intOf i).toNat)
  case atStart => exact ⟨a, rfl, Nat.le_refl _, ha, fun _ => rfl⟩
  case round =>
    obtain ⟨k, rfl, hak, hks, hsc⟩ := hrel
    have HS : Hid (∀ ws, scanL ((lst s).drop a) a none false [] ws = scanL ((lst s).drop k) k none false [] ws) := hsc
    clear hsc
    by_cases h : k < s.size
    · have hidx := idx s k h
      have b1 : decide ((k : Int) < (s.size : Int)) = true := by simp; omega
      obtain ⟨c, hc⟩ : ∃ c, c = s[k] := ⟨_, rfl⟩
      rw [← hc] at hidx
      have HC : Hid (c = s[k]) := hc
      clear hc
      rcases hp : partsB c with _ | _
      · have HQ : Hid (∀ w, Calls Tryd.prog 43 #[.int .u8 c.toNat] w fun e w' => e = .returned (.bool false) ∧ w' = w) := fun w => by have := HP.out c w; rwa [hp] at this
        have HPP : Hid (partsB c = false) := hp
        clear hp
        go_wp2_with (go_at_call 43; refine (HQ.out _).mono ?_; rintro e w1 ⟨rfl, hw1⟩; subst w1)
        go_ret
        exact ⟨k, rfl, rfl, hak, hks, fun h' => by rw [← HC.out]; exact HPP.out, HS.out⟩
      · have HQ : Hid (∀ w, Calls Tryd.prog 43 #[.int .u8 c.toNat] w fun e w' => e = .returned (.bool true) ∧ w' = w) := fun w => by have := HP.out c w; rwa [hp] at this
        have HPP : Hid (partsB c = true) := hp
        clear hp
        go_wp2_with (go_at_call 43; refine (HQ.out _).mono ?_; rintro e w1 ⟨rfl, hw1⟩; subst w1)
        go_round
        case rel => exact ⟨k + 1, by go_num, by omega, by omega, fun ws => by rw [HS.out ws, drop_at s k h, scan_part _ _ _ _ _ (by rw [← HC.out]; exact HPP.out)]; simp [endW]⟩
        case measure => simp [intOf]; omega
    · have b1 : decide ((k : Int) < (s.size : Int)) = false := by simp; omega
      go_wp2
      go_ret
      exact ⟨k, rfl, rfl, hak, hks, fun h' => absurd h' h, HS.out⟩
theorem conv_own (w : World) (base : Nat) (v : Value) (l : List UInt8) (h : w.ownsRow base 5 1 v l.length (Lib.byteCells l)) :
    (convert 49 9 v).run Tryd.prog w = .ok (.string (strB l)) w := by
  rcases h.2 with ⟨rfl, h0⟩ | ⟨g, cap, cur, rfl, _⟩
  · have : l = [] := List.eq_nil_of_length_eq_zero h0
    subst this
    exact run_convert_bytes_nil w 49 5 Tryd.underlying49 Tryd.underlying5 0 0 9 Tryd.underlying9
  · refine run_convert_bytes_back w 49 9 5 ⟨g, 0, none⟩ cap l Tryd.underlying49 Tryd.underlying5 Tryd.underlying9 (fun j hj => ?_)
    exact h.cells (g := g) rfl j _ (by simp [Lib.byteCells, hj])
theorem info5 : (Tryd.prog.info? 5).map (fun i => (i.zero, i.size, i.bytes)) = some (some (.int .u8 0), 1, 1) := by kernel_rfl
/-- What stands of the line behind the escape. -/
theorem slice_from (s : ByteArray) (k : Nat) (h : k < s.size) : (s.extract k s.size).data.toList = s[k] :: (lst s).drop (k + 1) := by
  rw [← drop_at s k h]
  simp [lst]
  exact List.take_of_length_le (by simp)
end Go.Proofs.YtjpoifoejbabiabDoor
