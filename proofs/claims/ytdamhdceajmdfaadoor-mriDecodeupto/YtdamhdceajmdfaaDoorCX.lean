
-- shelflaw19's clean names, clean commands.
import Derived.Test.YtdamhdceajmdfaaDoorPC
import Derived.Test.YtdamhdceajmdfaaDoorV1
import Derived.Test.YtdamhdceajmdfaaDoorT5
import Derived.Lib.IndexBytes
namespace Go.Proofs.YtdamhdceajmdfaaDoor
open Go.ChangeShapes Go.WideShapes Go.ChangeAt Go.RowKit Go.MapKept
set_option linter.unusedVariables false
set_option maxRecDepth 100000
set_option linter.unusedSimpArgs false
theorem idx32 (s : ByteArray) (k : Nat) (h : k < s.size) : ∀ w, (Instr.index 9 (.string s) (.int .i64 (k : Int))).run Tryd.prog w = .ok (.int .u8 (s[k].toNat : Int)) w := by
  intro w
  rw [run_index_string w 9 s .i64 k Tryd.underlying9, dif_pos (by omega)]
  simp
theorem at32 (s : ByteArray) (k : Nat) (h : k < s.size) : (byL s)[k]? = some s[k] := by
  have hl : (byL s).length = s.size := byL_size s
  rw [List.getElem?_eq_getElem (by omega)]; rfl
theorem sumS_mem32 {L : List ByteArray} {x : ByteArray} (h : x ∈ L) : x.size + 1 ≤ sumS L := by
  induction L with
  | nil => simp at h
  | cons y r ih =>
    rw [sumS_cons]
    rcases List.mem_cons.1 h with rfl | h
    · omega
    · have := ih h; omega
theorem okB_bad {b : UInt8} (h : okB b = false) : b.toNat = 10 ∨ b.toNat = 32 ∨ b.toNat = 9 ∨ b.toNat = 13 ∨ b.toNat = 44 ∨ b.toNat = 40 ∨ b.toNat = 41 ∨ b.toNat = 42 ∨ b.toNat = 59 := by
  have : ∀ x : Fin 256, okB (UInt8.ofNat x.val) = false → (x.val = 10 ∨ x.val = 32 ∨ x.val = 9 ∨ x.val = 13 ∨ x.val = 44 ∨ x.val = 40 ∨ x.val = 41 ∨ x.val = 42 ∨ x.val = 59) := by decide
  exact this ⟨b.toNat, b.toNat_lt⟩ (by simpa using h)
theorem okB_good {b : UInt8} (h : okB b = true) : ¬ b.toNat = 10 ∧ ¬ b.toNat = 32 ∧ ¬ b.toNat = 9 ∧ ¬ b.toNat = 13 ∧ ¬ b.toNat = 44 ∧ ¬ b.toNat = 40 ∧ ¬ b.toNat = 41 ∧ ¬ b.toNat = 42 ∧ ¬ b.toNat = 59 := by
  have : ∀ x : Fin 256, okB (UInt8.ofNat x.val) = true → (¬ x.val = 10 ∧ ¬ x.val = 32 ∧ ¬ x.val = 9 ∧ ¬ x.val = 13 ∧ ¬ x.val = 44 ∧ ¬ x.val = 40 ∧ ¬ x.val = 41 ∧ ¬ x.val = 42 ∧ ¬ x.val = 59) := by decide
  exact this ⟨b.toNat, b.toNat_lt⟩ (by simpa using h)
def okT (s : ByteArray) (k : Nat) : Prop := ∀ b ∈ (byL s).take k, okB b = true
theorem okT_next {s : ByteArray} {k : Nat} (h : k < s.size) (hd : okT s k) (hb : okB s[k] = true) : okT s (k + 1) := by
  intro b hm
  rw [takeSucc (at32 s k h)] at hm
  rcases List.mem_append.1 hm with q | q
  · exact hd b q
  · simp at q; subst q; exact hb
theorem okT_no {s : ByteArray} {k : Nat} (h : k < s.size) (hb : okB s[k] = false) : cleanN s = false := by
  unfold cleanN
  have : (byL s).all okB = false := by
    rw [List.all_eq_false]
    exact ⟨s[k], List.mem_of_getElem? (at32 s k h), by simp [hb]⟩
  rw [this]; rfl
theorem okT_end {s : ByteArray} (hd : okT s s.size) : cleanN s = (byL s != [] && byL s != [43]) := by
  unfold cleanN
  have : (byL s).all okB = true := by
    rw [List.all_eq_true]
    intro b hb
    refine hd b ?_
    rw [List.take_of_length_le (by rw [byL_size]; exact Nat.le_refl _)]; exact hb
  rw [this, Bool.true_and]
set_option maxHeartbeats 4000000 in
theorem cleanName_c (s : ByteArray) (w : World) (hm : s.size ≤ 1099511627776) :
    Calls Tryd.prog 34 #[.string s] w fun e w' => e = .returned (.bool (cleanN s)) ∧ w' = w := by
  go_enter Tryd.func34, Tryd.ntmps34
  go_wp2
  go_loop [3] (fun i => ∃ k : Nat, k ≤ s.size ∧ i = .int .i64 k ∧ okT s k) (fun i => s.size - (intOf i).toNat)
  case atStart => exact ⟨0, Nat.zero_le _, rfl, fun b hb => by simp at hb⟩
  case round =>
    obtain ⟨k, hk, rfl, hd⟩ := hrel
    have HD := hidK hd
    clear hd
    by_cases hlt : k < s.size
    · have hidx := idx32 s k hlt
      cases hok : okB s[k]
      · have HV := hidK (okT_no hlt hok)
        have hbad := okB_bad hok
        obtain ⟨B, hB⟩ : ∃ B : Nat, B = s[k].toNat := ⟨_, rfl⟩
        rw [← hB] at hidx hbad
        clear hok hB
        rcases hbad with rfl | rfl | rfl | rfl | rfl | rfl | rfl | rfl | rfl
        all_goals
          go_wp2
          go_ret
          exact ⟨by rw [HV.out]; rfl, rfl⟩
      · have HN := hidK (okT_next hlt HD.out hok)
        obtain ⟨n1, n2, n3, n4, n5, n6, n7, n8, n9⟩ := okB_good hok
        obtain ⟨B, hB⟩ : ∃ B : Nat, B = s[k].toNat := ⟨_, rfl⟩
        rw [← hB] at hidx n1 n2 n3 n4 n5 n6 n7 n8 n9
        have c1 : ((B : Int) == 10) = false := by simp; omega
        have c2 : ((B : Int) == 32) = false := by simp; omega
        have c3 : ((B : Int) == 9) = false := by simp; omega
        have c4 : ((B : Int) == 13) = false := by simp; omega
        have c5 : ((B : Int) == 44) = false := by simp; omega
        have c6 : ((B : Int) == 40) = false := by simp; omega
        have c7 : ((B : Int) == 41) = false := by simp; omega
        have c8 : ((B : Int) == 42) = false := by simp; omega
        have c9 : ((B : Int) == 59) = false := by simp; omega
        clear hok hB n1 n2 n3 n4 n5 n6 n7 n8 n9
        go_wp2
        go_roundw
        case rel => exact ⟨k + 1, by omega, by go_num, HN.out⟩
        case measure => simp [intOf]; omega
    · obtain rfl : k = s.size := by omega
      have HE := hidK (okT_end HD.out)
      have tl : s.toList = byL s := by rw [ByteArray.toList_eq]; rfl
      have HTL := hidK tl
      by_cases h0 : byL s = []
      · have h1 : (s.toList == []) = true := by rw [tl, h0]; rfl
        have h2 : s.toList = [] := by rw [tl, h0]
        have HR : Hid (cleanN s = false) := by show _ = _; rw [HE.out, h0]; rfl
        clear h0 tl
        go_wp2
        go_ret
        exact ⟨by rw [HR.out]; rfl, rfl⟩
      · by_cases h1 : byL s = [43]
        · have h2 : (s.toList == [43]) = true := by rw [tl, h1]; rfl
          have h3 : s.toList = [43] := by rw [tl, h1]
          have HR : Hid (cleanN s = false) := by show _ = _; rw [HE.out, h1]; rfl
          clear h0 h1 tl
          go_wp2
          go_ret
          exact ⟨by rw [HR.out]; rfl, rfl⟩
        · have h2 : (s.toList == [43]) = false := by rw [tl]; exact beq_eq_false_iff_ne.2 h1
          have h3 : (s.toList == []) = false := by rw [tl]; exact beq_eq_false_iff_ne.2 h0
          have h4 : ¬ s.toList = [] := by rw [tl]; exact h0
          have h5 : ¬ s.toList = [43] := by rw [tl]; exact h1
          have HR : Hid (cleanN s = true) := by show _ = _; rw [HE.out, bne_iff_ne.2 h0, bne_iff_ne.2 h1]; rfl
          clear h0 h1 tl
          go_wp2
          go_ret
          exact ⟨by rw [HR.out]; rfl, rfl⟩
set_option maxHeartbeats 4000000 in
theorem cleanNames_c (v : Value) (L : List ByteArray) (w : World) (h : RowT w v L) (hn : sumS L ≤ 1099511627776) :
    Calls Tryd.prog 35 #[v] w fun e w' => e = .returned (.bool (L.all cleanN)) ∧ w' = w := by
  obtain ⟨a1, c1, q1, _, _⟩ := h.form
  obtain ⟨n, hnn⟩ : ∃ n, n = L.length := ⟨_, rfl⟩
  have HN := hidK hnn
  have HQ := hidK h
  have HS := hidK hn
  rw [← hnn] at q1
  have hl := sumS_len L
  have hn2 : n ≤ 1099511627776 := by omega
  subst q1
  clear h hnn hl hn
  go_enter Tryd.func35, Tryd.ntmps35
  go_wp2
  go_loop [3] (fun i => ∃ k : Nat, k ≤ n ∧ i = .int .i64 k ∧ Hid ((L.take k).all cleanN = true)) (fun i => n - (intOf i).toNat)
  case atStart => exact ⟨0, Nat.zero_le _, rfl, by show _ = _; simp⟩
  case round =>
    obtain ⟨k, hkn, rfl, hT⟩ := hrel
    by_cases hk : k < n
    · have kI : (k : Int) < (n : Int) := by omega
      have k0 : (0 : Int) ≤ (k : Int) := by omega
      obtain ⟨x, hx⟩ : ∃ x, L[k]? = some x := ⟨_, List.getElem?_eq_getElem (by have := HN.out; omega)⟩
      obtain ⟨b1, o1, p1, e1, d0⟩ := HQ.out.tx hx
      have hxs : x.size ≤ 1099511627776 := by have := sumS_mem32 (List.mem_of_getElem? hx); have := HS.out; omega
      have HC : Hid (∀ w, Calls Tryd.prog 34 #[.string x] w fun e w' => e = .returned (.bool (cleanN x)) ∧ w' = w) := fun w => cleanName_c x w hxs
      have HT2 : Hid ((L.take (k + 1)).all cleanN = cleanN x) := by show _ = _; rw [takeSucc hx, List.all_append, hT.out]; simp
      have HNO : Hid (cleanN x = false → L.all cleanN = false) := fun q => List.all_eq_false.2 ⟨x, List.mem_of_getElem? hx, by simp [q]⟩
      injection e1 with e1 e1b e1c
      subst e1
      clear hx e1b e1c hxs hT
      cases hb : cleanN x
      · rw [hb] at HC
        have HR := hidK (HNO.out hb)
        clear hb HNO HT2
        go_wp2_with (go_at_call 34; refine (HC.out _).mono ?_; rintro e w2 ⟨rfl, h2⟩; rw [h2]; clear h2)
        go_ret
        exact ⟨by rw [HR.out]; rfl, rfl⟩
      · rw [hb] at HC HT2
        clear hb HNO
        go_wp2_with (go_at_call 34; refine (HC.out _).mono ?_; rintro e w2 ⟨rfl, h2⟩; rw [h2]; clear h2)
        go_roundw
        case rel => exact ⟨k + 1, by omega, by go_num, HT2⟩
        case measure => simp [intOf]; omega
    · obtain rfl : k = n := by omega
      have HR : Hid (L.all cleanN = true) := by
        have := hT.out
        rw [List.take_of_length_le (by rw [HN.out]; exact Nat.le_refl _)] at this
        exact this
      clear hT
      go_wp2
      go_ret
      exact ⟨by rw [HR.out]; rfl, rfl⟩
end Go.Proofs.YtdamhdceajmdfaaDoor
