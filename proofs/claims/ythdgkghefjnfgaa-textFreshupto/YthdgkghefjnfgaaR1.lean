-- The document's own Words: its pieces' contracts.
import Derived.Test.YthdgkghefjnfgaaW4
namespace Go.Proofs.Ythdgkghefjnfgaa
open Go.RowKit
set_option linter.unusedVariables false
theorem rparts_c (c : UInt8) (w : World) : Calls Try.prog 25 #[.int .u8 c.toNat] w fun e w' => e = .returned (.bool (partsB c)) ∧ w' = w := by
  obtain ⟨n, hn⟩ : ∃ n : Nat, n = c.toNat := ⟨_, rfl⟩
  have hb : partsB c = (decide (n = 32) || decide (n = 9) || decide (n = 10)) := by
    rw [hn]
    have e : ∀ k : UInt8, (c == k) = decide (c.toNat = k.toNat) := fun k => by
      by_cases h : c = k
      · subst h; simp
      · have : c.toNat ≠ k.toNat := fun h' => h (UInt8.toNat_inj.1 h')
        simp [h, this]
    simp only [partsB, e]; rfl
  rw [← hn, hb]
  clear hb
  go_enter Try.func25, Try.ntmps25
  go_wp2
  all_goals
    go_returns
    refine ⟨?_, rfl⟩
    congr 2
    have e1 : ((n : Int) == 32) = decide (n = 32) := beqI n 32
    have e2 : ((n : Int) == 9) = decide (n = 9) := beqI n 9
    have e3 : ((n : Int) == 10) = decide (n = 10) := beqI n 10
    simp only [← e1, ← e2, ← e3]
    simp [*]
theorem hexI_is (c : Nat) (hc : c < 256) : hexI c = if 48 ≤ c ∧ c ≤ 57 then (c : Int) - 48 else if 97 ≤ c ∧ c ≤ 102 then (c : Int) - 97 + 10 else if 65 ≤ c ∧ c ≤ 70 then (c : Int) - 65 + 10 else -1 := by
  have : ∀ k : Fin 256, hexI k.val = if 48 ≤ k.val ∧ k.val ≤ 57 then (k.val : Int) - 48 else if 97 ≤ k.val ∧ k.val ≤ 102 then (k.val : Int) - 97 + 10 else if 65 ≤ k.val ∧ k.val ≤ 70 then (k.val : Int) - 65 + 10 else -1 := by decide +kernel
  exact this ⟨c, hc⟩
theorem digit_c (c : Nat) (hc : c < 256) (w : World) : Calls Try.prog 31 #[.int .u8 c] w fun e w' => e = .returned (.int .i64 (hexI c)) ∧ w' = w := by
  have HI : Hid (hexI c = if 48 ≤ c ∧ c ≤ 57 then (c : Int) - 48 else if 97 ≤ c ∧ c ≤ 102 then (c : Int) - 97 + 10 else if 65 ≤ c ∧ c ≤ 70 then (c : Int) - 65 + 10 else -1) := hexI_is c hc
  by_cases c1 : 48 ≤ c ∧ c ≤ 57
  · rw [HI.out, if_pos c1]
    obtain ⟨h1, h2⟩ := c1
    clear HI
    go_enter Try.func31, Try.ntmps31
    go_wp2
    go_ret
    exact ⟨rfl, rfl⟩
  by_cases c2 : 97 ≤ c ∧ c ≤ 102
  · rw [HI.out, if_neg c1, if_pos c2]
    obtain ⟨h1, h2⟩ := c2
    have b1 : decide ((48 : Int) ≤ (c : Int)) = true := by simp; omega
    have b2 : decide ((c : Int) ≤ 57) = false := by simp; omega
    clear HI c1
    go_enter Try.func31, Try.ntmps31
    go_wp2
    go_ret
    exact ⟨rfl, rfl⟩
  by_cases c3 : 65 ≤ c ∧ c ≤ 70
  · rw [HI.out, if_neg c1, if_neg c2, if_pos c3]
    obtain ⟨h1, h2⟩ := c3
    have b1 : decide ((48 : Int) ≤ (c : Int)) = true := by simp; omega
    have b2 : decide ((c : Int) ≤ 57) = false := by simp; omega
    have b3 : decide ((97 : Int) ≤ (c : Int)) = false := by simp; omega
    clear HI c1 c2
    go_enter Try.func31, Try.ntmps31
    go_wp2
    go_ret
    exact ⟨rfl, rfl⟩
  rw [HI.out, if_neg c1, if_neg c2, if_neg c3]
  clear HI
  go_enter Try.func31, Try.ntmps31
  go_wp2
  all_goals first
    | (exfalso; omega)
    | (go_ret; exact ⟨rfl, rfl⟩)
theorem escX_by (a b : UInt8) : (hexI a.toNat < 0 ∨ hexI b.toNat < 0 → escX a b = none) ∧ (0 ≤ hexI a.toNat → 0 ≤ hexI b.toNat → escX a b = some (UInt8.ofNat (16 * hexI a.toNat + hexI b.toNat).toNat, 4)) := by
  have e : ∀ (c : UInt8), hexV c = (if hexI c.toNat < 0 then none else some (hexI c.toNat).toNat) := by
    intro c
    have : UInt8.ofNat c.toNat = c := by simp
    unfold hexI; rw [this]
    cases hexV c with
    | none => simp
    | some k => simp
  unfold escX
  rw [e a, e b]
  constructor
  · rintro (h | h)
    · simp [h]
    · simp [h]
  · intro h1 h2
    rw [if_neg (by omega), if_neg (by omega)]
    have : 16 * (hexI a.toNat).toNat + (hexI b.toNat).toNat = (16 * hexI a.toNat + hexI b.toNat).toNat := by omega
    simp [this]
theorem escape_c (s : ByteArray) (k : Nat) (w : World) (hk : k < s.size) (hm : s.size ≤ 4194304) :
    Calls Try.prog 26 #[.string s, .int .i64 k] w fun e w' => e = .returned (match escL ((lst s).drop (k + 1)) with | some (b, n) => .tuple #[.int .u8 b.toNat, .int .i64 n] | none => .tuple #[.int .u8 0, .int .i64 0]) ∧ w' = w := by
  by_cases h1 : k + 1 < s.size
  · have hd := drop_at s (k + 1) h1
    have i1 : ∀ w, (Instr.index 9 (.string s) (.int .i64 ((k : Int) + 1))).run Try.prog w = .ok (.int .u8 ((s[k + 1]'h1).toNat : Int)) w := by
      have := idx s (k + 1) h1
      simpa using this
    obtain ⟨c, hc⟩ : ∃ c, c = s[k + 1] := ⟨_, rfl⟩
    rw [← hc] at hd i1
    clear hc
    obtain ⟨t, ht⟩ : ∃ t, t = (lst s).drop (k + 1 + 1) := ⟨_, rfl⟩
    rw [← ht] at hd
    rw [hd]
    obtain ⟨n, hn⟩ : ∃ n, n = c.toNat := ⟨_, rfl⟩
    rw [← hn] at i1
    have ec : ∀ k : UInt8, (c = k) ↔ n = k.toNat := fun k => by rw [hn]; exact ⟨fun h => by rw [h], fun h => UInt8.toNat_inj.1 h⟩
    have HV : Hid (escL (c :: t) = if n = 34 then some (34, 2) else if n = 92 then some (92, 2) else if n = 110 then some (10, 2) else if n = 116 then some (9, 2) else if n = 120 then (match t with | a :: b :: _ => escX a b | _ => none) else none) := by
      simp only [escL, ec]; rfl
    have b1 : decide ((s.size : Int) ≤ (k : Int) + 1) = false := by simp; omega
    clear ec hd
    by_cases k1 : n = 34
    · have hv := HV.out
      rw [if_pos k1] at hv
      rw [hv]
      subst k1
      clear HV hv hn ht
      go_enter Try.func26, Try.ntmps26
      go_wp2
      go_ret2
      exact ⟨rfl, rfl⟩
    have n1 : ((n : Int) == 34) = false := by simp; omega
    by_cases k2 : n = 92
    · have hv := HV.out
      rw [if_neg k1, if_pos k2] at hv
      rw [hv]
      subst k2
      clear HV hv hn ht
      go_enter Try.func26, Try.ntmps26
      go_wp2
      go_ret2
      exact ⟨rfl, rfl⟩
    have n2 : ((n : Int) == 92) = false := by simp; omega
    by_cases k3 : n = 110
    · have hv := HV.out
      rw [if_neg k1, if_neg k2, if_pos k3] at hv
      rw [hv]
      subst k3
      clear HV hv hn ht
      go_enter Try.func26, Try.ntmps26
      go_wp2
      go_ret2
      exact ⟨rfl, rfl⟩
    have n3 : ((n : Int) == 110) = false := by simp; omega
    by_cases k4 : n = 116
    · have hv := HV.out
      rw [if_neg k1, if_neg k2, if_neg k3, if_pos k4] at hv
      rw [hv]
      subst k4
      clear HV hv hn ht
      go_enter Try.func26, Try.ntmps26
      go_wp2
      go_ret2
      exact ⟨rfl, rfl⟩
    have n4 : ((n : Int) == 116) = false := by simp; omega
    by_cases k5 : n = 120
    · have hv := HV.out
      rw [if_neg k1, if_neg k2, if_neg k3, if_neg k4, if_pos k5] at hv
      rw [hv]
      subst k5
      by_cases h3 : k + 3 < s.size
      · have d2 := drop_at s (k + 2) (by omega)
        have d3 := drop_at s (k + 3) h3
        have i2 : ∀ w, (Instr.index 9 (.string s) (.int .i64 ((k : Int) + 2))).run Try.prog w = .ok (.int .u8 ((s[k + 2]'(by omega)).toNat : Int)) w := by
          have := idx s (k + 2) (by omega)
          simpa using this
        have i3 : ∀ w, (Instr.index 9 (.string s) (.int .i64 ((k : Int) + 3))).run Try.prog w = .ok (.int .u8 ((s[k + 3]'h3).toNat : Int)) w := by
          have := idx s (k + 3) h3
          simpa using this
        obtain ⟨a, ha⟩ : ∃ a, a = s[k + 2] := ⟨_, rfl⟩
        obtain ⟨b, hb⟩ : ∃ b, b = s[k + 3] := ⟨_, rfl⟩
        rw [← ha] at i2 d2
        rw [← hb] at i3 d3
        have et : t = a :: b :: (lst s).drop (k + 4) := by rw [ht]; show (lst s).drop (k + 2) = _; rw [d2]; show a :: (lst s).drop (k + 3) = _; rw [d3]
        subst et
        have b3 : decide ((s.size : Int) ≤ (k : Int) + 3) = false := by simp; omega
        have ha9 := a.toNat_lt
        have hb9 := b.toNat_lt
        obtain ⟨xa, hxa⟩ : ∃ xa : Int, xa = a.toNat := ⟨_, rfl⟩
        obtain ⟨xb, hxb⟩ : ∃ xb : Int, xb = b.toNat := ⟨_, rfl⟩
        have Ha : Hid (∀ w, Calls Try.prog 31 #[.int .u8 xa] w fun e w' => e = .returned (.int .i64 (hexI a.toNat)) ∧ w' = w) := fun w => by rw [hxa]; exact digit_c a.toNat ha9 w
        have Hb : Hid (∀ w, Calls Try.prog 31 #[.int .u8 xb] w fun e w' => e = .returned (.int .i64 (hexI b.toNat)) ∧ w' = w) := fun w => by rw [hxb]; exact digit_c b.toNat hb9 w
        have ra := hexI_range a.toNat ha9
        have rb := hexI_range b.toNat hb9
        have hR := escX_by a b
        obtain ⟨va, hva⟩ : ∃ va, va = hexI a.toNat := ⟨_, rfl⟩
        obtain ⟨vb, hvb⟩ : ∃ vb, vb = hexI b.toNat := ⟨_, rfl⟩
        rw [← hva] at Ha ra hR
        rw [← hvb] at Hb rb hR
        rw [← hxa] at i2
        rw [← hxb] at i3
        show Calls _ _ _ _ fun e w' => e = .returned (match escX a b with | some (b, n) => Value.tuple #[.int .u8 b.toNat, .int .i64 n] | none => .tuple #[.int .u8 0, .int .i64 0]) ∧ _
        obtain ⟨V, hV⟩ : ∃ V, V = (match escX a b with | some (b, n) => Value.tuple #[.int .u8 b.toNat, .int .i64 n] | none => .tuple #[.int .u8 0, .int .i64 0]) := ⟨_, rfl⟩
        have HVV : Hid ((va < 0 ∨ vb < 0 → V = .tuple #[.int .u8 0, .int .i64 0]) ∧ (0 ≤ va → 0 ≤ vb → V = .tuple #[.int .u8 (16 * va + vb), .int .i64 4])) := by
          constructor
          · intro h; rw [hV, hR.1 h]
          · intro h1 h2
            rw [hV, hR.2 h1 h2]
            have e2 : (UInt8.ofNat (16 * va + vb).toNat).toNat = (16 * va + vb).toNat := by simp; omega
            simp only [e2]
            rw [show (((16 * va + vb).toNat : Nat) : Int) = 16 * va + vb by omega]
            first | done | rfl
        rw [← hV]
        clear HV hv hn ht hV hR hva hvb hxa hxb d2 d3 ha hb ha9 hb9
        go_enter Try.func26, Try.ntmps26
        go_wp2_with (first
          | (go_at_call_of 31 (Value.int IntKind.u8 xa); refine (Ha.out _).mono ?_; rintro e w1 ⟨rfl, hw1⟩; subst w1)
          | (go_at_call 31; refine (Hb.out _).mono ?_; rintro e w1 ⟨rfl, hw1⟩; subst w1))
        all_goals
          go_ret2
          refine ⟨?_, rfl⟩
          first
            | (rw [HVV.out.1 (by omega)]; rfl)
            | (rw [HVV.out.1 (by omega)]; done)
            | (rw [HVV.out.2 (by omega) (by omega)]; done)
            | (rw [HVV.out.2 (by omega) (by omega)]; rfl)
      · have b3 : decide ((s.size : Int) ≤ (k : Int) + 3) = true := by simp; omega
        have hl := congrArg List.length ht
        rw [List.length_drop, lst_len] at hl
        clear HV hv hn ht
        rcases t with _ | ⟨a, _ | ⟨b, t⟩⟩
        · clear hl
          show Calls _ _ _ _ fun e w' => e = .returned (.tuple #[.int .u8 0, .int .i64 0]) ∧ _
          go_enter Try.func26, Try.ntmps26
          go_wp2
          go_ret2
          exact ⟨rfl, rfl⟩
        · clear hl
          show Calls _ _ _ _ fun e w' => e = .returned (.tuple #[.int .u8 0, .int .i64 0]) ∧ _
          go_enter Try.func26, Try.ntmps26
          go_wp2
          go_ret2
          exact ⟨rfl, rfl⟩
        · simp at hl; omega
    have n5 : ((n : Int) == 120) = false := by simp; omega
    have hv := HV.out
    rw [if_neg k1, if_neg k2, if_neg k3, if_neg k4, if_neg k5] at hv
    rw [hv]
    clear HV hv hn k1 k2 k3 k4 k5 ht
    go_enter Try.func26, Try.ntmps26
    go_wp2
    go_ret2
    exact ⟨rfl, rfl⟩
  · have b1 : decide ((s.size : Int) ≤ (k : Int) + 1) = true := by simp; omega
    rw [List.drop_eq_nil_of_le (by rw [lst_len]; omega)]
    show Calls _ _ _ _ fun e w' => e = .returned (.tuple #[.int .u8 0, .int .i64 0]) ∧ _
    go_enter Try.func26, Try.ntmps26
    go_wp2
    go_ret2
    exact ⟨rfl, rfl⟩
end Go.Proofs.Ythdgkghefjnfgaa
