
-- shelflaw11: formed, good, names, twin: contracts.
import Derived.Test.YtegjklllnegghaaGreatDoorEC
import Derived.Test.YtegjklllnegghaaGreatDoorRG
import Derived.Test.YtegjklllnegghaaGreatDoorC3
import Derived.Laws.AppendOwnNone
namespace Go.Proofs.YtegjklllnegghaaGreatDoor
open Go.ChangeShapes Go.WideShapes Go.ChangeAt Go.RowKit
set_option linter.unusedVariables false
set_option maxRecDepth 100000
def frm (k : Int) : Int := (k.tmod 3 + 3).tmod 3 + 1
theorem frm_known (k : Int) : known (frm k) := by
  unfold frm known
  have h1 := Int.tmod_lt_of_pos k (b := 3) (by omega)
  have h2 : -3 < k.tmod 3 := Int.lt_tmod_of_pos k (by omega)
  have h3 : (k.tmod 3 + 3).tmod 3 = (k.tmod 3 + 3) % 3 := Int.tmod_eq_emod_of_nonneg (by omega)
  rw [h3]; omega
theorem formed_c (k : Int) (w : World) : Calls Tryz.prog 7 #[.int .i64 k] w fun e w' => e = .returned (.int .i64 (frm k)) ∧ w' = w := by
  have h1 := Int.tmod_lt_of_pos k (b := 3) (by omega)
  have h2 : -3 < k.tmod 3 := Int.lt_tmod_of_pos k (by omega)
  have h3 : (k.tmod 3 + 3).tmod 3 = (k.tmod 3 + 3) % 3 := Int.tmod_eq_emod_of_nonneg (by omega)
  go_enter Tryz.func7, Tryz.ntmps7
  go_wp2
  go_ret
  refine ⟨?_, rfl⟩
  unfold frm
  first | rfl | go_num | (rw [h3]; go_num)
/-- a name up to its first byte 0 -/
def gdL (l : List UInt8) : List UInt8 := l.takeWhile (fun c => c != 0)
def gdN (s : ByteArray) : ByteArray := if gdL s.data.toList = [] then ⟨#[63]⟩ else strL (gdL s.data.toList)
theorem gdL_good (l : List UInt8) : ¬ (0 : UInt8) ∈ gdL l := by
  intro h
  have : ∀ l : List UInt8, (0 : UInt8) ∈ l.takeWhile (fun c => c != 0) → False := by
    intro l
    induction l with
    | nil => intro h; simp at h
    | cons x r ih =>
      intro h
      rw [List.takeWhile_cons] at h
      split at h
      · rename_i hx
        rcases List.mem_cons.1 h with h | h
        · rw [← h] at hx; simp at hx
        · exact ih h
      · simp at h
  exact this l h
theorem gdN_good (s : ByteArray) : goodL (gdN s).data.toList = true := by
  unfold gdN
  split
  · decide
  · rename_i h
    rw [strL_data, goodL_iff]; exact ⟨h, gdL_good _⟩
theorem gdN_size (s : ByteArray) : (gdN s).size ≤ s.size + 1 := by
  unfold gdN
  split
  · exact Nat.le_add_left _ _
  · rw [strL_size]
    have := (List.takeWhile_sublist (l := s.data.toList) (fun c => c != 0)).length_le
    have e : s.data.toList.length = s.size := rfl
    unfold gdL; omega
theorem gdL_stop (l : List UInt8) : ∀ k : Nat, l[k]? = some 0 → (∀ j c, j < k → l[j]? = some c → c ≠ 0) → gdL l = l.take k := by
  induction l with
  | nil => intro k h; simp at h
  | cons x r ih =>
    intro k h hn
    cases k with
    | zero =>
      simp at h; subst h
      unfold gdL; rw [List.takeWhile_cons]; simp
    | succ k =>
      have hx : x ≠ 0 := hn 0 x (by omega) rfl
      have := ih k (by simpa using h) (fun j c hj hc => hn (j + 1) c (by omega) (by simpa using hc))
      unfold gdL at this ⊢
      rw [List.takeWhile_cons, if_pos (by simpa using hx), this]; rfl
theorem gdL_all (l : List UInt8) (h : ∀ (j : Nat) (c : UInt8), l[j]? = some c → c ≠ 0) : gdL l = l := by
  induction l with
  | nil => rfl
  | cons x r ih =>
    have hx : x ≠ 0 := h 0 x rfl
    have := ih (fun j c hc => h (j + 1) c (by simpa using hc))
    unfold gdL at this ⊢
    rw [List.takeWhile_cons, if_pos (by simpa using hx), this]
theorem idxL (s : ByteArray) (k : Nat) (h : k < s.size) : ∀ w, (Instr.index 9 (.string s) (.int .i64 (k : Int))).run Tryz.prog w = .ok (.int .u8 (s[k].toNat : Int)) w := by
  intro w
  rw [run_index_string w 9 s .i64 k Tryz.underlying9, dif_pos (by omega)]
  simp
theorem sliceL_to (s : ByteArray) (k : Nat) (h : k ≤ s.size) : ∀ w, (Instr.slice 9 (.string s) none (some (.int .i64 (k : Int))) none).run Tryz.prog w = .ok (.string (strL (s.data.toList.take k))) w := by
  intro w
  rw [run_slice_string_to_if w 9 s .i64 k Tryz.underlying9, if_pos (by omega), Int.toNat_natCast, Lib.extract_upto]; rfl
set_option maxHeartbeats 4000000 in
theorem good_c (s : ByteArray) (w : World) (hm : s.size ≤ 1048576) :
    Calls Tryz.prog 18 #[.string s] w fun e w' => e = .returned (.string (gdN s)) ∧ w' = w := by
  have hsi : (s.size : Int) ≤ 1048576 := by omega
  have HL : Hid (s.data.toList.length = s.size) := rfl
  go_enter Tryz.func18, Tryz.ntmps18
  go_wp2
  go_loopw [0, 3] (fun v i wx => wx = w ∧ ∃ (t : ByteArray) (k : Nat), v = .string t ∧ i = .int .i64 k ∧ k ≤ s.size ∧ ((t = s ∧ ∀ j c, j < k → s.data.toList[j]? = some c → c ≠ 0) ∨ (t = strL (gdL s.data.toList) ∧ t.size < k))) (fun v i _ => s.size - (intOf i).toNat)
  case atStart => exact ⟨rfl, s, 0, rfl, rfl, Nat.zero_le _, .inl ⟨rfl, fun j c hj => absurd hj (Nat.not_lt_zero _)⟩⟩
  case round =>
    obtain ⟨rfl, t, k, rfl, rfl, hk, hd⟩ := hrel
    rcases hd with ⟨rfl, hd⟩ | ⟨ht, hlt⟩
    · have HD := hidK hd
      clear hd
      by_cases hlt : k < t.size
      · have hidx := idxL t k hlt
        have hat : Hid (t.data.toList[k]? = some t[k]) := at_someG t k hlt
        have kI : (k : Int) < (t.size : Int) := by omega
        by_cases h1 : t[k].toNat = 0
        · have c1 : ((t[k].toNat : Int) == 0) = true := by simp; omega
          have HZ : Hid (gdL t.data.toList = t.data.toList.take k) := gdL_stop _ k (by rw [hat.out, show t[k] = 0 from UInt8.toNat_inj.1 h1]) HD.out
          have hsl := sliceL_to t k (by omega)
          clear h1
          go_wp2
          go_roundw
          case rel => exact ⟨by first | rfl | trivial, _, k + 1, rfl, by go_num, by omega, .inr ⟨by rw [HZ.out], by rw [strL_size, List.length_take]; omega⟩⟩
          case measure => clear HD hat HZ; simp [intOf]; omega
        · have c1 : ((t[k].toNat : Int) == 0) = false := by simp; omega
          have HN : Hid (t[k] ≠ 0) := fun e => h1 (by rw [e]; rfl)
          clear h1
          go_wp2
          go_roundw
          case rel =>
            refine ⟨by first | rfl | trivial, t, k + 1, rfl, by go_num, by omega, .inl ⟨rfl, fun j c hj hc => ?_⟩⟩
            by_cases e : j = k
            · subst e; rw [hat.out] at hc; injection hc with hc; rw [← hc]; exact HN.out
            · exact HD.out j c (by omega) hc
          case measure => clear HD hat HN; simp [intOf]; omega
      · obtain rfl : k = t.size := by omega
        have HG : Hid (gdL t.data.toList = t.data.toList) := gdL_all _ fun j c hc => HD.out j c (by have := (List.getElem?_eq_some_iff.1 hc).1; have := HL.out; omega) hc
        by_cases he : t.data.toList = []
        · have hte : t = ⟨#[]⟩ := by rw [← strL_of t, he]; rfl
          subst hte
          clear HD he
          go_wp2
          go_ret
          exact ⟨by first | rfl | decide, rfl⟩
        · have hq : (t.toList == []) = false := by rw [Lib.toList_data]; simpa using he
          have HF : Hid (gdN t = t) := (by show _ = _; unfold gdN; rw [HG.out, if_neg he, strL_of])
          clear HD he HG
          go_wp2
          go_ret
          exact ⟨by rw [HF.out]; rfl, rfl⟩
    · have hn : ¬ (k : Int) < (t.size : Int) := by omega
      have HF : Hid (gdN s = if gdL s.data.toList = [] then ⟨#[63]⟩ else t) := (by show _ = _; rw [ht]; rfl)
      by_cases he : gdL s.data.toList = []
      · have hte : t = ⟨#[]⟩ := by rw [ht, he]; rfl
        have HF2 : Hid (gdN s = ⟨#[63]⟩) := (by have := HF.out; rw [if_pos he] at this; exact this)
        clear ht he HF
        subst hte
        go_wp2
        go_ret
        exact ⟨by rw [HF2.out]; rfl, rfl⟩
      · have hq : (t.toList == []) = false := by rw [Lib.toList_data, ht, strL_data]; simpa using he
        have HF2 : Hid (gdN s = t) := (by have := HF.out; rw [if_neg he] at this; exact this)
        clear ht he HF
        go_wp2
        go_ret
        exact ⟨by rw [HF2.out]; rfl, rfl⟩
end Go.Proofs.YtegjklllnegghaaGreatDoor
