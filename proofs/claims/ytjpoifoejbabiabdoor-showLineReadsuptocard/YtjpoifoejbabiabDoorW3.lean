
import Derived.Test.YtjpoifoejbabiabDoorW2
import Derived.OwnWalk
namespace Go.Proofs.YtjpoifoejbabiabDoor
open Go.RowKit
set_option linter.unusedVariables false
set_option maxRecDepth 100000
theorem app_own {w w' : World} {B : Nat} {v v' : Value} {l : List UInt8} {c : UInt8} (w0 : World) (o : Obj) (hown : w.ownsRow B 5 1 v l.length (Lib.byteCells l)) (hb : Below B w0 w) (hB : B ≤ w.heap.size)
    (hown' : w'.ownsRow B 5 1 v' (l.length + 1) (Lib.byteCells l ++ [.int .u8 c.toNat])) (hg : (w.alloc o).grownBy w' v.ownBlock) :
    w'.ownsRow B 5 1 v' (l ++ [c]).length (Lib.byteCells (l ++ [c])) ∧ Below B w0 w' := by
  refine ⟨by rw [Lib.byteCells_append]; simpa [Lib.byteCells] using hown', ?_⟩
  exact (hb.alloc hB o).grown hg (by simp; omega) (fun k hk => (hown.lt k hk).1)
theorem own_belowW {w w' : World} {B : Nat} {e : TypeId} {size : Nat} {v : Value} {n : Nat} {xs : List Value} (h : w.ownsRow B e size v n xs) (hb : Below w.heap.size w w') (_hB : B ≤ w.heap.size) : w'.ownsRow B e size v n xs := by
  obtain ⟨h1, h2⟩ := h
  refine ⟨h1, ?_⟩
  rcases h2 with h2 | ⟨g, cap, cur, hv, hg, hh, r⟩
  · exact .inl h2
  · refine .inr ⟨g, cap, cur, hv, hg, ?_, r⟩
    have hlt : g < w.heap.size := (Array.getElem?_eq_some_iff.1 hh).1
    rw [hb.block g hlt]; exact hh
set_option maxHeartbeats 2000000 in
theorem readWord_c (s : ByteArray) (a : Nat) (w : World) (ha : a < s.size) (hna : partsB s[a] = false) (hm : s.size ≤ 33554432) :
    Calls Tryd.prog 23 #[.string s, .int .i64 a] w fun e w' => Below w.heap.size w w' ∧
      ((∃ (wd : List UInt8) (k : Nat), e = .returned (.tuple #[.string (strB wd), .int .i64 k, .int .i64 0]) ∧ a < k ∧ k ≤ s.size ∧ (∀ h : k < s.size, partsB s[k] = true) ∧ wd.length ≤ k - a ∧
          ∀ ws, scanL ((lst s).drop a) a none true [] ws = scanL ((lst s).drop k) k none true wd ws) ∨
       (∃ (p c : Nat), e = .returned (.tuple #[.string (strB []), .int .i64 p, .int .i64 c]) ∧ c ≠ 0 ∧ c < 100 ∧ ∀ ws, scanL ((lst s).drop a) a none true [] ws = .inl (p, c))) := by
  obtain ⟨i0, hi, hz0, hz1, hz2⟩ := info_parts info5
  have HP : Hid (∀ (c : UInt8) w, Calls Tryd.prog 43 #[.int .u8 c.toNat] w fun e w' => e = .returned (.bool (partsB c)) ∧ w' = w) := fun c w => parts_c c w
  have HE : Hid (∀ (t : ByteArray) (r : List UInt8) w, t.data.toList = 92 :: r → t.size < 140737488355328 → Calls Tryd.prog 44 #[.string t] w fun e w' => e = .returned (match escL r with | some (b, n) => .tuple #[.int .u8 b.toNat, .int .i64 n] | none => .tuple #[.int .u8 0, .int .i64 0]) ∧ Below w.heap.size w w') := fun t r w h h' => readEscape_c t r h w h'
  have HNA : Hid (partsB s[a] = false) := hna
  clear hna
  go_enter Tryd.func23, Tryd.ntmps23
  go_wp2
  go_loopw [1, 7, 8, 9] (fun i v q o wx => ∃ (k : Nat) (wd : List UInt8) (qq : Option Nat) (op : Nat), i = .int .i64 k ∧ q = .bool qq.isSome ∧ o = .int .i64 op ∧ (∀ p, qq = some p → op = p) ∧ a ≤ k ∧ k ≤ s.size ∧ op ≤ k ∧ wd.length ≤ k - a ∧
      wx.ownsRow w.heap.size 5 1 v wd.length (Lib.byteCells wd) ∧ Below w.heap.size w wx ∧ ∀ ws, scanL ((lst s).drop a) a none true [] ws = scanL ((lst s).drop k) k qq true wd ws) (fun i _ _ _ _ => s.size - (intOf i).toNat)
  case atStart => exact ⟨a, [], none, 0, rfl, rfl, rfl, (fun p h => by cases h), Nat.le_refl _, by omega, by omega, by simp, World.ownsRow_nil _ _ _ _, Below.refl _ _, fun _ => rfl⟩
  case round =>
    obtain ⟨k, wd, qq, op, rfl, rfl, rfl, hop, hak, hks, hok, hwl, hown, hbw, hsc⟩ := hrel
    have HS : Hid (∀ ws, scanL ((lst s).drop a) a none true [] ws = scanL ((lst s).drop k) k qq true wd ws) := hsc
    have HOP : Hid (∀ p, qq = some p → op = p) := hop
    have hbs := hbw.size
    clear hsc hop
    by_cases h : k < s.size
    · have hidx := idx s k h
      have b1 : decide ((k : Int) < (s.size : Int)) = true := by simp; omega
      have hdr := drop_at s k h
      obtain ⟨c, hc⟩ : ∃ c, c = s[k] := ⟨_, rfl⟩
      rw [← hc] at hidx hdr
      have HC : Hid (c = s[k]) := hc
      have HD : Hid ((lst s).drop k = c :: (lst s).drop (k + 1)) := hdr
      have hc9 := c.toNat_lt
      have HX := slice_from s k h
      rw [← hc] at HX
      have HXX : Hid ((s.extract k s.size).data.toList = c :: (lst s).drop (k + 1)) := HX
      clear hc hdr HX
      by_cases c1 : c = 34
      · subst c1
        rcases qq with _ | p
        · simp only [Option.isSome_none]
          go_wp2
          go_roundw
          case rel => exact ⟨k + 1, wd, some k, k, by go_num, rfl, rfl, (fun p hp => by cases hp; rfl), by omega, by omega, by omega, by omega, hown, hbw, fun ws => by rw [HS.out, HD.out, scan_quote]; simp⟩
          case measure => simp [intOf]; omega
        · simp only [Option.isSome_some]
          go_wp2
          go_roundw
          case rel => exact ⟨k + 1, wd, none, k, by go_num, rfl, rfl, (fun p hp => by cases hp), by omega, by omega, by omega, by omega, hown, hbw, fun ws => by rw [HS.out, HD.out, scan_quote]; simp⟩
          case measure => simp [intOf]; omega
      · have n1 : ((c.toNat : Int) == 34) = false := by
          have : c.toNat ≠ 34 := fun h => c1 (UInt8.toNat_inj.1 h)
          simp; omega
        by_cases c2 : c = 92
        · subst c2
          obtain ⟨t, ht⟩ : ∃ t, t = s.extract k s.size := ⟨_, rfl⟩
          have hts : t.size < 140737488355328 := by rw [ht]; simp; omega
          have HT := HXX.out
          rw [← ht] at HT
          have HQ : Hid (∀ w, Calls Tryd.prog 44 #[.string (s.extract k s.size)] w fun e w' => e = .returned (match escL ((lst s).drop (k + 1)) with | some (b, n) => .tuple #[.int .u8 b.toNat, .int .i64 n] | none => .tuple #[.int .u8 0, .int .i64 0]) ∧ Below w.heap.size w w') := fun w => by rw [← ht]; exact HE.out t _ w HT hts
          clear HE HT hts ht HXX
          rcases he : escL ((lst s).drop (k + 1)) with _ | ⟨b, n⟩
          · rw [he] at HQ
            have HEE : Hid (escL ((lst s).drop (k + 1)) = none) := he
            clear he
            go_wp2_with (go_at_call 44; refine (HQ.out _).mono ?_; rintro e w1 ⟨rfl, hb1⟩)
            go_returns
            exact ⟨hbw.trans (hb1.mono hbs), .inr ⟨k, 21, rfl, by omega, by omega, fun ws => by rw [HS.out, HD.out, scan_bad _ _ _ _ _ _ HEE.out]⟩⟩
          · rw [he] at HQ
            have hwi := escL_width he
            rw [List.length_drop, lst_len] at hwi
            have HEE : Hid (escL ((lst s).drop (k + 1)) = some (b, n)) := he
            have hb9 := b.toNat_lt
            have nz : ((n : Int) == 0) = false := by simp; omega
            clear he
            go_wp2_with (first
              | (go_at_call 44; refine (HQ.out _).mono ?_; rintro e w1 ⟨rfl, hb1⟩)
              | (at_builtin; refine wpList_append_own _ rfl _ _ 49 rfl w.heap.size 5 i0 (.int .u8 0) 1 1 Tryd.underlying49 hi hz0 hz1 hz2 rfl (by decide) _ _ _ rfl ((own_belowW hown hb1 hbs).alloc _) ⟨w1.heap.size, 0, none⟩ 1 1 [.int .u8 b.toNat] rfl rfl ?c1 ?c2 ?c3 ?c4 ?c5 ?_))
            case c1 =>
              intro j u hj
              match j, hj with
              | 0, hj => simp at hj; subst hj; simp [Addr.add]
            case c2 => intro u hu; simp at hu; subst hu; rfl
            case c3 => unfold maxLen; omega
            case c4 => omega
            case c5 => have := hb1.size; simp; omega
            intro v' w2 hown' hgrow _
            have R := app_own w _ (own_belowW hown hb1 hbs) (hbw.trans (hb1.mono hbs)) (by have := hb1.size; omega) hown' hgrow
            clear hown' hgrow hown HQ
            go_wp2
            go_roundw
            case rel => exact ⟨k + n, wd ++ [b], qq, op, by go_num, rfl, rfl, HOP.out, by omega, by omega, by omega, (by simp; omega), R.1, R.2, fun ws => by
              rw [HS.out, HD.out, scan_esc _ _ _ _ _ _ _ _ HEE.out, List.drop_drop]
              rw [show k + 1 + (n - 1) = k + n by omega]⟩
            case measure => simp [intOf]; omega
        · have n2 : ((c.toNat : Int) == 92) = false := by
            have : c.toNat ≠ 92 := fun h => c2 (UInt8.toNat_inj.1 h)
            simp; omega
          have HN : Hid (c ≠ 34 ∧ c ≠ 92) := ⟨c1, c2⟩
          clear c1 c2 HE HXX
          by_cases hend : partsB c = true ∧ qq = none
          · obtain ⟨hp, rfl⟩ := hend
            have HQ : Hid (∀ w, Calls Tryd.prog 43 #[.int .u8 c.toNat] w fun e w' => e = .returned (.bool true) ∧ w' = w) := fun w => by have := HP.out c w; rwa [hp] at this
            have HPP : Hid (partsB c = true) := hp
            have hcv := conv_own wr w.heap.size u7 wd hown
            clear hp HP
            simp only [Option.isSome_none]
            go_wp2_with (go_at_call 43; refine (HQ.out _).mono ?_; rintro e w1 ⟨rfl, hw1⟩; subst w1)
            go_returns
            refine ⟨hbw, .inl ⟨wd, k, rfl, ?_, hks, fun h' => by rw [← HC.out]; exact HPP.out, hwl, HS.out⟩⟩
            rcases Nat.lt_or_ge a k with h' | h'
            · exact h'
            · obtain rfl : a = k := by omega
              have := HNA.out
              rw [← HC.out, HPP.out] at this; cases this
          · have HB : Hid (¬ (partsB c = true ∧ qq = none)) := hend
            rcases hp : partsB c with _ | _
            · have HQ : Hid (∀ w, Calls Tryd.prog 43 #[.int .u8 c.toNat] w fun e w' => e = .returned (.bool false) ∧ w' = w) := fun w => by have := HP.out c w; rwa [hp] at this
              clear hp HP hend
              go_wp2_with (first
                | (go_at_call 43; refine (HQ.out _).mono ?_; rintro e w1 ⟨rfl, hw1⟩; subst w1)
                | (at_builtin; refine wpList_append_own _ rfl _ _ 49 rfl w.heap.size 5 i0 (.int .u8 0) 1 1 Tryd.underlying49 hi hz0 hz1 hz2 rfl (by decide) _ _ _ rfl (hown.alloc _) ⟨wr.heap.size, 0, none⟩ 1 1 [.int .u8 c.toNat] rfl rfl ?c1 ?c2 ?c3 ?c4 ?c5 ?_))
              case c1 =>
                intro j u hj
                match j, hj with
                | 0, hj => simp at hj; subst hj; simp [Addr.add]
              case c2 => intro u hu; simp at hu; subst hu; rfl
              case c3 => unfold maxLen; omega
              case c4 => omega
              case c5 => simp; omega
              intro v' w2 hown' hgrow _
              have R := app_own w _ hown hbw (by omega) hown' hgrow
              clear hown' hgrow hown HQ
              go_wp2
              go_roundw
              case rel => exact ⟨k + 1, wd ++ [c], qq, op, by go_num, rfl, rfl, HOP.out, by omega, by omega, by omega, (by simp; omega), R.1, R.2, fun ws => by rw [HS.out, HD.out, scan_byte _ _ _ _ _ _ HB.out HN.out.2 HN.out.1]⟩
              case measure => simp [intOf]; omega
            · obtain ⟨p, rfl⟩ : ∃ p, qq = some p := by
                cases qq with
                | none => exact absurd ⟨hp, rfl⟩ hend
                | some p => exact ⟨p, rfl⟩
              have HQ : Hid (∀ w, Calls Tryd.prog 43 #[.int .u8 c.toNat] w fun e w' => e = .returned (.bool true) ∧ w' = w) := fun w => by have := HP.out c w; rwa [hp] at this
              clear hp HP hend
              simp only [Option.isSome_some]
              go_wp2_with (first
                | (go_at_call 43; refine (HQ.out _).mono ?_; rintro e w1 ⟨rfl, hw1⟩; subst w1)
                | (at_builtin; refine wpList_append_own _ rfl _ _ 49 rfl w.heap.size 5 i0 (.int .u8 0) 1 1 Tryd.underlying49 hi hz0 hz1 hz2 rfl (by decide) _ _ _ rfl (hown.alloc _) ⟨wr.heap.size, 0, none⟩ 1 1 [.int .u8 c.toNat] rfl rfl ?c1 ?c2 ?c3 ?c4 ?c5 ?_))
              case c1 =>
                intro j u hj
                match j, hj with
                | 0, hj => simp at hj; subst hj; simp [Addr.add]
              case c2 => intro u hu; simp at hu; subst hu; rfl
              case c3 => unfold maxLen; omega
              case c4 => omega
              case c5 => simp; omega
              intro v' w2 hown' hgrow _
              have R := app_own w _ hown hbw (by omega) hown' hgrow
              clear hown' hgrow hown HQ
              go_wp2
              go_roundw
              case rel => exact ⟨k + 1, wd ++ [c], some p, op, by go_num, rfl, rfl, HOP.out, by omega, by omega, by omega, (by simp; omega), R.1, R.2, fun ws => by rw [HS.out, HD.out, scan_byte _ _ _ _ _ _ HB.out HN.out.2 HN.out.1]⟩
              case measure => simp [intOf]; omega
    · have b1 : decide ((k : Int) < (s.size : Int)) = false := by simp; omega
      obtain rfl : k = s.size := by omega
      rcases qq with _ | p
      · have hcv := conv_own wr w.heap.size u7 wd hown
        simp only [Option.isSome_none]
        clear HE HP
        go_wp2
        go_returns
        exact ⟨hbw, .inl ⟨wd, s.size, rfl, ha, Nat.le_refl _, fun h' => absurd h' (Nat.lt_irrefl _), hwl, HS.out⟩⟩
      · obtain rfl := HOP.out p rfl
        simp only [Option.isSome_some]
        clear HE HP
        go_wp2
        go_returns
        exact ⟨hbw, .inr ⟨op, 20, rfl, by omega, by omega, fun ws => by rw [HS.out, drop_end, scan_nil]⟩⟩
end Go.Proofs.YtjpoifoejbabiabDoor
