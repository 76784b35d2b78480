
import Derived.Test.YtjpoifoejbabiabDoorRows
import Derived.Test.YtjpoifoejbabiabDoorWords
import Derived.WalkKit
import Derived.ProofKit
import Derived.WalkLawsBesides
import Derived.Lib.IndexBytes
import Derived.Handy
import Derived.BigQuiet
import Derived.Deep.RegionWith
namespace Go.Proofs.YtjpoifoejbabiabDoor
open Go.RowKit
set_option linter.unusedVariables false
set_option maxRecDepth 100000
theorem idx (s : ByteArray) (k : Nat) (h : k < s.size) : ∀ w, (Instr.index 9 (.string s) (.int .i64 (k : Int))).run Tryd.prog w = .ok (.int .u8 (s[k].toNat : Int)) w := by
  intro w
  rw [run_index_string w 9 s .i64 k Tryd.underlying9, dif_pos (by omega)]
  simp
theorem beqI (n k : Nat) : ((n : Int) == (k : Int)) = decide (n = k) := by
  by_cases h : n = k
  · subst h; simp
  · have h2 : ¬ (n : Int) = (k : Int) := by omega
    simp [h]; omega
theorem parts_c (c : UInt8) (w : World) : Calls Tryd.prog 43 #[.int .u8 c.toNat] w fun e w' => e = .returned (.bool (partsB c)) ∧ w' = w := by
  obtain ⟨n, hn⟩ : ∃ n : Nat, n = c.toNat := ⟨_, rfl⟩
  have hb : partsB c = (decide (n = 32) || decide (n = 9) || decide (n = 10)) := by
    rw [hn]
    have e : ∀ k : UInt8, (c == k) = decide (c.toNat = k.toNat) := fun k => by
      by_cases h : c = k
      · subst h; simp
      · have : c.toNat ≠ k.toNat := fun h' => h (UInt8.toNat_inj.1 h')
        simp [h, this]
    simp only [partsB, e]; rfl
  rw [← hn, hb]
  clear hb
  go_enter Tryd.func43, Tryd.ntmps43
  go_wp2
  all_goals
    go_returns
    refine ⟨?_, rfl⟩
    congr 2
    have e1 : ((n : Int) == 32) = decide (n = 32) := beqI n 32
    have e2 : ((n : Int) == 9) = decide (n = 9) := beqI n 9
    have e3 : ((n : Int) == 10) = decide (n = 10) := beqI n 10
    simp only [← e1, ← e2, ← e3]
    simp [*]
def hexI (c : Nat) : Int := match hexV (UInt8.ofNat c) with | some n => n | none => -1
def hexTab : ByteArray := ⟨#[48, 49, 50, 51, 52, 53, 54, 55, 56, 57, 97, 98, 99, 100, 101, 102]⟩
theorem ext_idx (s : ByteArray) (c : Int) (w : World) : (callFunc 101 #[.string s, .int .u8 c]).run Tryd.prog w = .ok (.value (.int .i64 (firstIdx s c.toNat.toUInt8))) w := by
  rw [run_callFunc_extern Tryd.func101 (by kernel_rfl) (by kernel_rfl) (by kernel_rfl) (e := Extern.BytealgIndexByte.indexByte) (by kernel_rfl), run_indexByte_string]
  rfl
theorem hexI_low (c : Nat) (hc : c < 256) (h : ¬ (65 ≤ c ∧ c ≤ 70)) : firstIdx hexTab c.toUInt8 = hexI c := by
  have : ∀ k : Fin 256, ¬ (65 ≤ k.val ∧ k.val ≤ 70) → firstIdx hexTab k.val.toUInt8 = hexI k.val := by decide +kernel
  exact this ⟨c, hc⟩ h
theorem hexI_cap (c : Nat) (h : 65 ≤ c ∧ c ≤ 70) : firstIdx hexTab (c + 32).toUInt8 = hexI c := by
  have : ∀ k : Fin 256, (65 ≤ k.val ∧ k.val ≤ 70) → firstIdx hexTab (k.val + 32).toUInt8 = hexI k.val := by decide +kernel
  exact this ⟨c, by omega⟩ h
theorem hexI_range (c : Nat) (hc : c < 256) : -1 ≤ hexI c ∧ hexI c < 16 := by
  have : ∀ k : Fin 256, -1 ≤ hexI k.val ∧ hexI k.val < 16 := by decide +kernel
  exact this ⟨c, hc⟩
theorem idxTab (c : Nat) (w : World) : Calls Tryd.prog 97 #[.string hexTab, .int .u8 c] w fun e w' => e = .returned (.int .i64 (firstIdx hexTab c.toUInt8)) ∧ w' = w := by
  have hx := ext_idx hexTab c
  rw [Int.toNat_natCast] at hx
  go_enter Tryd.func97, Tryd.ntmps97
  go_wp2
  go_ret
  exact ⟨rfl, rfl⟩
theorem hexValue_c (c : Nat) (hc : c < 256) (w : World) : Calls Tryd.prog 84 #[.int .u8 c] w fun e w' => e = .returned (.int .i64 (hexI c)) ∧ w' = w := by
  by_cases h : 65 ≤ c ∧ c ≤ 70
  · have H : Hid (∀ w, Calls Tryd.prog 97 #[.string hexTab, .int .u8 ((c : Int) + 32)] w fun e w' => e = .returned (.int .i64 (hexI c)) ∧ w' = w) := fun w => by
      have := idxTab (c + 32) w
      rw [hexI_cap c h] at this
      rwa [show (((c + 32 : Nat) : Int)) = (c : Int) + 32 by omega] at this
    unfold hexTab at H
    obtain ⟨h1, h2⟩ := h
    go_enter Tryd.func84, Tryd.ntmps84
    go_wp2_with (go_at_call 97; refine (H.out _).mono ?_; rintro e w1 ⟨rfl, hw1⟩; subst w1)
    go_ret
    exact ⟨rfl, rfl⟩
  · have H : Hid (∀ w, Calls Tryd.prog 97 #[.string hexTab, .int .u8 (c : Int)] w fun e w' => e = .returned (.int .i64 (hexI c)) ∧ w' = w) := fun w => by
      have := idxTab c w
      rwa [hexI_low c hc h] at this
    unfold hexTab at H
    by_cases h1 : 65 ≤ c
    · have h2 : 70 < c := by omega
      have b1 : decide ((65 : Int) ≤ (c : Int)) = true := by simp; omega
      have b2 : decide ((c : Int) ≤ 70) = false := by simp; omega
      clear h
      go_enter Tryd.func84, Tryd.ntmps84
      go_wp2_with (go_at_call 97; refine (H.out _).mono ?_; rintro e w1 ⟨rfl, hw1⟩; subst w1)
      go_ret
      exact ⟨rfl, rfl⟩
    · have b1 : decide ((65 : Int) ≤ (c : Int)) = false := by simp; omega
      clear h
      go_enter Tryd.func84, Tryd.ntmps84
      go_wp2_with (go_at_call 97; refine (H.out _).mono ?_; rintro e w1 ⟨rfl, hw1⟩; subst w1)
      go_ret
      exact ⟨rfl, rfl⟩
theorem size_list (s : ByteArray) : s.size = s.data.toList.length := by simp
theorem at_list {s : ByteArray} {l : List UInt8} (h : s.data.toList = l) (k : Nat) (hk : k < s.size) : s[k] = l.getD k 0 := by
  subst h
  have hl : s.data.toList.length = s.size := by simp
  simp [List.getD, List.getElem?_eq_getElem (show k < s.data.toList.length by omega)]
  rfl
theorem below_drewN {n : Nat} {a b : World} (h : Below n a b) (k : Nat) : Below n a (b.drewN k) := by
  induction k with
  | zero => exact h
  | succ k ih => exact ih.drew
theorem or_hex (va vb : Int) (h1 : 0 ≤ va) (h2 : va < 16) (h3 : 0 ≤ vb) (h4 : vb < 16) : bits BinOp.or IntKind.i64 (va * 16) vb % 256 = 16 * va + vb := by
  have : ∀ x y : Fin 16, bits BinOp.or IntKind.i64 ((x.val : Int) * 16) (y.val : Int) % 256 = 16 * (x.val : Int) + (y.val : Int) := by decide +kernel
  have k := this ⟨va.toNat, by omega⟩ ⟨vb.toNat, by omega⟩
  simp only [] at k
  rwa [show ((va.toNat : Nat) : Int) = va by omega, show ((vb.toNat : Nat) : Int) = vb by omega] at k
theorem readHex_c (s : ByteArray) (c0 c1 : UInt8) (r : List UInt8) (h : s.data.toList = c0 :: c1 :: r) (w : World) (hm : s.size < 140737488355328) :
    Calls Tryd.prog 65 #[.string s] w fun e w' => e = .returned (match (match r with | a :: b :: _ => escX a b | _ => none) with | some (b, n) => .tuple #[.int .u8 b.toNat, .int .i64 n] | none => .tuple #[.int .u8 0, .int .i64 0]) ∧ Below w.heap.size w w' := by
  have hsz := size_list s
  rw [h] at hsz
  rcases r with _ | ⟨a, _ | ⟨b, t⟩⟩
  ·
    have b1 : decide ((s.size : Int) < 4) = true := by simp; simp at hsz; omega
    clear h hsz
    go_enter Tryd.func65, Tryd.ntmps65
    go_wp2
    go_ret2
    exact ⟨rfl, Below.refl _ _⟩
  ·
    have b1 : decide ((s.size : Int) < 4) = true := by simp; simp at hsz; omega
    clear h hsz
    go_enter Tryd.func65, Tryd.ntmps65
    go_wp2
    go_ret2
    exact ⟨rfl, Below.refl _ _⟩
  ·
    have hs4 : 4 ≤ s.size := by simp at hsz; omega
    have b1 : decide ((s.size : Int) < 4) = false := by simp; omega
    have i2 : ∀ w, (Instr.index 9 (.string s) (.int .i64 2)).run Tryd.prog w = .ok (.int .u8 ((s[2]'(by omega)).toNat : Int)) w := idx s 2 (by omega)
    have i3 : ∀ w, (Instr.index 9 (.string s) (.int .i64 3)).run Tryd.prog w = .ok (.int .u8 ((s[3]'(by omega)).toNat : Int)) w := idx s 3 (by omega)
    rw [at_list h 2 (by omega)] at i2
    rw [at_list h 3 (by omega)] at i3
    simp only [List.getD_cons_succ, List.getD_cons_zero] at i2 i3
    have ha := a.toNat_lt
    have hb := b.toNat_lt
    obtain ⟨na, hna⟩ : ∃ na, na = a.toNat := ⟨_, rfl⟩
    obtain ⟨nb, hnb⟩ : ∃ nb, nb = b.toNat := ⟨_, rfl⟩
    rw [← hna] at i2 ha
    rw [← hnb] at i3 hb
    have Ha : Hid (∀ w, Calls Tryd.prog 84 #[.int .u8 na] w fun e w' => e = .returned (.int .i64 (hexI na)) ∧ w' = w) := fun w => hexValue_c na ha w
    have Hb : Hid (∀ w, Calls Tryd.prog 84 #[.int .u8 nb] w fun e w' => e = .returned (.int .i64 (hexI nb)) ∧ w' = w) := fun w => hexValue_c nb hb w
    have ra := hexI_range na ha
    have rb := hexI_range nb hb
    obtain ⟨xa, hxa⟩ : ∃ xa : Int, xa = na := ⟨_, rfl⟩
    obtain ⟨xb, hxb⟩ : ∃ xb : Int, xb = nb := ⟨_, rfl⟩
    obtain ⟨va, hva⟩ : ∃ va, va = hexI na := ⟨_, rfl⟩
    obtain ⟨vb, hvb⟩ : ∃ vb, vb = hexI nb := ⟨_, rfl⟩
    have HR : Hid ((va < 0 ∨ vb < 0 → escX a b = none) ∧ (0 ≤ va → 0 ≤ vb → escX a b = some (UInt8.ofNat (16 * va + vb).toNat, 4))) := by
      have e : ∀ (c : UInt8) (n : Nat), n = c.toNat → hexV c = (if hexI n < 0 then none else some (hexI n).toNat) := by
        intro c n hn
        have : UInt8.ofNat n = c := by subst hn; simp
        unfold hexI; rw [this]
        cases hexV c with
        | none => simp
        | some k => simp
      have ea := e a na hna
      have eb := e b nb hnb
      rw [← hva] at ea
      rw [← hvb] at eb
      unfold escX
      rw [ea, eb]
      constructor
      · rintro (h | h)
        · simp [h]
        · simp [h]
      · intro h1 h2
        rw [if_neg (by omega), if_neg (by omega)]
        have : 16 * va.toNat + vb.toNat = (16 * va + vb).toNat := by omega
        simp [this]
    have HE : Hid ((va = hexI na ∧ vb = hexI nb) ∧ na = a.toNat ∧ nb = b.toNat) := ⟨⟨hva, hvb⟩, hna, hnb⟩
    rw [← hxa, ← hva] at Ha
    rw [← hxb, ← hvb] at Hb
    rw [← hxa] at i2
    rw [← hxb] at i3
    rw [← hva] at ra
    rw [← hvb] at rb
    clear hsz h hxa hxb hva hvb hna hnb ha hb
    obtain ⟨V, hV⟩ : ∃ V, V = (match escX a b with | some (b, n) => Value.tuple #[.int .u8 b.toNat, .int .i64 n] | none => .tuple #[.int .u8 0, .int .i64 0]) := ⟨_, rfl⟩
    have HV : Hid (V = (match escX a b with | some (b, n) => Value.tuple #[.int .u8 b.toNat, .int .i64 n] | none => .tuple #[.int .u8 0, .int .i64 0])) := hV
    show Calls _ _ _ _ fun e w' => e = .returned (match escX a b with | some (b, n) => Value.tuple #[.int .u8 b.toNat, .int .i64 n] | none => .tuple #[.int .u8 0, .int .i64 0]) ∧ _
    rw [← hV]
    clear hV
    go_enter Tryd.func65, Tryd.ntmps65
    go_wp2_with fail
    go_quiet (first | (go_at_call_of 84 (Value.int IntKind.u8 xa); exact Calls.quiet_of_same (Ha.out _)) | (go_at_call 84; exact Calls.quiet_of_same (Hb.out _)))
    go_wp2
    all_goals go_ret2
    · refine ⟨?_, below_drewN (Below.refl _ _) _⟩
      have hv := HV.out
      rw [HR.out.1 (by omega)] at hv
      rw [hv]; rfl
    · refine ⟨?_, below_drewN (Below.refl _ _) _⟩
      have hv := HV.out
      rw [HR.out.2 (by omega) (by omega)] at hv
      rw [hv]
      have e := or_hex va vb (by omega) (by omega) (by omega) (by omega)
      show Ending.returned (Value.tuple #[Value.int IntKind.u8 (bits BinOp.or IntKind.i64 (va * 16) vb % 256), _]) = _
      rw [e]
      have e2 : (UInt8.ofNat (16 * va + vb).toNat).toNat = (16 * va + vb).toNat := by simp; omega
      simp only [e2]
      rw [show (((16 * va + vb).toNat : Nat) : Int) = 16 * va + vb by omega]; rfl
    · refine ⟨?_, below_drewN (Below.refl _ _) _⟩
      have hv := HV.out
      rw [HR.out.1 (by omega)] at hv
      rw [hv]; rfl
theorem readEscape_c (s : ByteArray) (r : List UInt8) (h : s.data.toList = 92 :: r) (w : World) (hm : s.size < 140737488355328) :
    Calls Tryd.prog 44 #[.string s] w fun e w' => e = .returned (match escL r with | some (b, n) => .tuple #[.int .u8 b.toNat, .int .i64 n] | none => .tuple #[.int .u8 0, .int .i64 0]) ∧ Below w.heap.size w w' := by
  have hsz := size_list s
  rw [h] at hsz
  rcases r with _ | ⟨c, t⟩
  · have b1 : decide ((s.size : Int) < 2) = true := by simp; simp at hsz; omega
    clear h hsz
    go_enter Tryd.func44, Tryd.ntmps44
    go_wp2
    go_ret2
    exact ⟨rfl, Below.refl _ _⟩
  · have hs2 : 2 ≤ s.size := by simp at hsz; omega
    have b1 : decide ((s.size : Int) < 2) = false := by simp; omega
    have i1 : ∀ w, (Instr.index 9 (.string s) (.int .i64 1)).run Tryd.prog w = .ok (.int .u8 ((s[1]'(by omega)).toNat : Int)) w := idx s 1 (by omega)
    rw [at_list h 1 (by omega)] at i1
    simp only [List.getD_cons_succ, List.getD_cons_zero] at i1
    have HX : Hid (∀ w, Calls Tryd.prog 65 #[.string s] w fun e w' => e = .returned (match (match t with | a :: b :: _ => escX a b | _ => none) with | some (b, n) => .tuple #[.int .u8 b.toNat, .int .i64 n] | none => .tuple #[.int .u8 0, .int .i64 0]) ∧ Below w.heap.size w w') := fun w => readHex_c s 92 c t h w hm
    obtain ⟨n, hn⟩ : ∃ n, n = c.toNat := ⟨_, rfl⟩
    rw [← hn] at i1
    have ec : ∀ k : UInt8, (c = k) ↔ n = k.toNat := fun k => by rw [hn]; exact ⟨fun h => by rw [h], fun h => UInt8.toNat_inj.1 h⟩
    have HV : Hid (escL (c :: t) = if n = 34 then some (34, 2) else if n = 92 then some (92, 2) else if n = 110 then some (10, 2) else if n = 116 then some (9, 2) else if n = 120 then (match t with | a :: b :: _ => escX a b | _ => none) else none) := by
      simp only [escL, ec]; rfl
    clear hsz h ec
    by_cases k1 : n = 34
    · have hv := HV.out
      rw [if_pos k1] at hv
      rw [hv]
      subst k1
      clear HV HX hv hn
      go_enter Tryd.func44, Tryd.ntmps44
      go_wp2
      go_ret2
      exact ⟨rfl, Below.refl _ _⟩
    have n1 : ((n : Int) == 34) = false := by simp; omega
    by_cases k2 : n = 92
    · have hv := HV.out
      rw [if_neg k1, if_pos k2] at hv
      rw [hv]
      subst k2
      clear HV HX hv hn
      go_enter Tryd.func44, Tryd.ntmps44
      go_wp2
      go_ret2
      exact ⟨rfl, Below.refl _ _⟩
    have n2 : ((n : Int) == 92) = false := by simp; omega
    by_cases k3 : n = 110
    · have hv := HV.out
      rw [if_neg k1, if_neg k2, if_pos k3] at hv
      rw [hv]
      subst k3
      clear HV HX hv hn
      go_enter Tryd.func44, Tryd.ntmps44
      go_wp2
      go_ret2
      exact ⟨rfl, Below.refl _ _⟩
    have n3 : ((n : Int) == 110) = false := by simp; omega
    by_cases k4 : n = 116
    · have hv := HV.out
      rw [if_neg k1, if_neg k2, if_neg k3, if_pos k4] at hv
      rw [hv]
      subst k4
      clear HV HX hv hn
      go_enter Tryd.func44, Tryd.ntmps44
      go_wp2
      go_ret2
      exact ⟨rfl, Below.refl _ _⟩
    have n4 : ((n : Int) == 116) = false := by simp; omega
    by_cases k5 : n = 120
    · have hv := HV.out
      rw [if_neg k1, if_neg k2, if_neg k3, if_neg k4, if_pos k5] at hv
      rw [hv]
      obtain ⟨R, hR⟩ : ∃ R, R = (match t with | a :: b :: _ => escX a b | _ => none) := ⟨_, rfl⟩
      rw [← hR] at HX ⊢
      subst k5
      clear HV hv hn hR
      rcases R with _ | ⟨b, k⟩
      · simp only [] at HX ⊢
        go_enter Tryd.func44, Tryd.ntmps44
        go_wp2_with (go_at_call 65; refine (HX.out _).mono ?_; rintro e w1 ⟨rfl, hb1⟩)
        go_ret2
        exact ⟨rfl, hb1⟩
      · simp only [] at HX ⊢
        go_enter Tryd.func44, Tryd.ntmps44
        go_wp2_with (go_at_call 65; refine (HX.out _).mono ?_; rintro e w1 ⟨rfl, hb1⟩)
        go_ret2
        exact ⟨rfl, hb1⟩
    have n5 : ((n : Int) == 120) = false := by simp; omega
    have hv := HV.out
    rw [if_neg k1, if_neg k2, if_neg k3, if_neg k4, if_neg k5] at hv
    rw [hv]
    clear HV HX hv hn k1 k2 k3 k4 k5
    go_enter Tryd.func44, Tryd.ntmps44
    go_wp2
    go_ret2
    exact ⟨rfl, Below.refl _ _⟩
end Go.Proofs.YtjpoifoejbabiabDoor
