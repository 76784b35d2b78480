
import Derived.Test.YtjpoifoejbabiabDoorW3
namespace Go.Proofs.YtjpoifoejbabiabDoor
open Go.RowKit
set_option linter.unusedVariables false
set_option maxRecDepth 100000
theorem info9 : (Tryd.prog.info? 9).map (fun i => (i.zero, i.size, i.bytes)) = some (some (.string ⟨#[]⟩), 1, 16) := by kernel_rfl
def strV (l : List ByteArray) : List Value := l.map .string
theorem strV_length (l : List ByteArray) : (strV l).length = l.length := by simp [strV]
theorem app_strs {w w' : World} {B : Nat} {v v' : Value} {l : List ByteArray} {c : ByteArray} (w0 : World) (o : Obj) (hown : w.ownsRow B 9 1 v l.length (strV l)) (hb : Below B w0 w) (hB : B ≤ w.heap.size)
    (hown' : w'.ownsRow B 9 1 v' (l.length + 1) (strV l ++ [.string c])) (hg : (w.alloc o).grownBy w' v.ownBlock) :
    w'.ownsRow B 9 1 v' (l ++ [c]).length (strV (l ++ [c])) ∧ Below B w0 w' := by
  refine ⟨by simpa [strV] using hown', ?_⟩
  exact (hb.alloc hB o).grown hg (by simp; omega) (fun k hk => (hown.lt k hk).1)
/-- What Words answers, and in which memory. -/
def WordsGave (r : WRes) (w : World) (e : Ending) (w' : World) : Prop :=
  Below w.heap.size w w' ∧ match r with
  | .inr ws => ∃ v, e = .returned (.tuple #[v, .int .i64 0, .int .i64 0]) ∧ w'.ownsRow w.heap.size 9 1 v ws.length (strV ws)
  | .inl (p, c) => c ≠ 0 ∧ c < 100 ∧ e = .returned (.tuple #[.slice none 0 0, .int .i64 p, .int .i64 c])
set_option maxHeartbeats 2000000 in
theorem words_c (s : ByteArray) (w : World) (hm : s.size ≤ 33554432) : Calls Tryd.prog 8 #[.string s] w (WordsGave (wordsL (lst s)) w) := by
  obtain ⟨i0, hi, hz0, hz1, hz2⟩ := info_parts info9
  have HK : Hid (∀ (a : Nat) w, a ≤ s.size → Calls Tryd.prog 22 #[.string s, .int .i64 a] w fun e w' => ∃ k : Nat, e = .returned (.int .i64 k) ∧ w' = w ∧ a ≤ k ∧ k ≤ s.size ∧ (∀ h : k < s.size, partsB s[k] = false) ∧
      ∀ ws, scanL ((lst s).drop a) a none false [] ws = scanL ((lst s).drop k) k none false [] ws) := fun a w h => skip_c s a w h (by omega)
  have HR : Hid (∀ (a : Nat) w (ha : a < s.size), partsB s[a] = false → Calls Tryd.prog 23 #[.string s, .int .i64 a] w fun e w' => Below w.heap.size w w' ∧
      ((∃ (wd : List UInt8) (k : Nat), e = .returned (.tuple #[.string (strB wd), .int .i64 k, .int .i64 0]) ∧ a < k ∧ k ≤ s.size ∧ (∀ h : k < s.size, partsB s[k] = true) ∧ wd.length ≤ k - a ∧
          ∀ ws, scanL ((lst s).drop a) a none true [] ws = scanL ((lst s).drop k) k none true wd ws) ∨
       (∃ (p c : Nat), e = .returned (.tuple #[.string (strB []), .int .i64 p, .int .i64 c]) ∧ c ≠ 0 ∧ c < 100 ∧ ∀ ws, scanL ((lst s).drop a) a none true [] ws = .inl (p, c)))) := fun a w ha h => readWord_c s a w ha h hm
  have HK0 : Hid (∀ w, Calls Tryd.prog 22 #[.string s, .int .i64 0] w fun e w' => ∃ k : Nat, e = .returned (.int .i64 k) ∧ w' = w ∧ 0 ≤ k ∧ k ≤ s.size ∧ (∀ h : k < s.size, partsB s[k] = false) ∧
      ∀ ws, scanL ((lst s).drop 0) 0 none false [] ws = scanL ((lst s).drop k) k none false [] ws) := fun w => HK.out 0 w (Nat.zero_le _)
  go_enter Tryd.func8, Tryd.ntmps8
  go_wp2_with (go_at_call 22; refine (HK0.out _).mono ?_; rintro e w1 ⟨k0, rfl, hw1, -, hk0, hnp0, hsc0⟩; subst w1)
  have HI : Hid ((∀ h : k0 < s.size, partsB s[k0] = false) ∧ wordsL (lst s) = scanL ((lst s).drop k0) k0 none false [] []) := ⟨hnp0, hsc0 []⟩
  clear hnp0 hsc0 HK0
  go_loopw [5, 6] (fun v i wx => ∃ (k : Nat) (ws : List ByteArray), i = .int .i64 k ∧ k ≤ s.size ∧ ws.length ≤ k ∧ (∀ h : k < s.size, partsB s[k] = false) ∧
      wx.ownsRow w.heap.size 9 1 v ws.length (strV ws) ∧ Below w.heap.size w wx ∧ wordsL (lst s) = scanL ((lst s).drop k) k none false [] ws) (fun _ i _ => s.size - (intOf i).toNat)
  case atStart => exact ⟨k0, [], rfl, hk0, by simp, HI.out.1, World.ownsRow_nil _ _ _ _, Below.refl _ _, HI.out.2⟩
  case round =>
    obtain ⟨k, ws, rfl, hks, hwl, hnp, hown, hbw, hsc⟩ := hrel
    have HS : Hid (wordsL (lst s) = scanL ((lst s).drop k) k none false [] ws) := hsc
    have HNP : Hid (∀ h : k < s.size, partsB s[k] = false) := hnp
    have hbs := hbw.size
    clear hsc hnp HI
    by_cases h : k < s.size
    · have b1 : decide ((k : Int) < (s.size : Int)) = true := by simp; omega
      have HQ : Hid (∀ w, Calls Tryd.prog 23 #[.string s, .int .i64 k] w fun e w' => Below w.heap.size w w' ∧
          ((∃ (wd : List UInt8) (k' : Nat), e = .returned (.tuple #[.string (strB wd), .int .i64 k', .int .i64 0]) ∧ k < k' ∧ k' ≤ s.size ∧ (∀ h : k' < s.size, partsB s[k'] = true) ∧ wd.length ≤ k' - k ∧
              ∀ ws, scanL ((lst s).drop k) k none true [] ws = scanL ((lst s).drop k') k' none true wd ws) ∨
           (∃ (p c : Nat), e = .returned (.tuple #[.string (strB []), .int .i64 p, .int .i64 c]) ∧ c ≠ 0 ∧ c < 100 ∧ ∀ ws, scanL ((lst s).drop k) k none true [] ws = .inl (p, c)))) := fun w => HR.out k w h (HNP.out h)
      have HIN : Hid (wordsL (lst s) = scanL ((lst s).drop k) k none true [] ws) := by
        rw [HS.out, drop_at s k h, scan_in _ _ _ _ (HNP.out h)]; exact rfl
      clear HR
      go_wp2_with (go_at_call 23; refine (HQ.out _).mono ?_)
      rintro e w1 ⟨hb1, hor⟩
      clear HQ
      rcases hor with ⟨wd, k', rfl, hkk, hk's, hpe, hwdl, hsc2⟩ | ⟨p, c, rfl, hc0, hc9, hsc2⟩
      · have HS2 : Hid (wordsL (lst s) = scanL ((lst s).drop k') k' none false [] (ws ++ [strB wd])) := by
          show _ = _
          rw [HIN.out, hsc2 ws, scan_close s k' hk's hpe]
        have hown1 := own_belowW hown hb1 hbs
        have hbw1 := hbw.trans (hb1.mono hbs)
        have hbs1 := hb1.size
        have HK1 : Hid (∀ w, Calls Tryd.prog 22 #[.string s, .int .i64 k'] w fun e w' => ∃ j : Nat, e = .returned (.int .i64 j) ∧ w' = w ∧ k' ≤ j ∧ j ≤ s.size ∧ (∀ h : j < s.size, partsB s[j] = false) ∧
          ∀ ws, scanL ((lst s).drop k') k' none false [] ws = scanL ((lst s).drop j) j none false [] ws) := fun w => HK.out k' w hk's
        clear hsc2 hpe HIN HK hown hbw HS hb1
        go_wp2_with (at_builtin; refine wpList_append_own _ rfl _ _ 27 rfl w.heap.size 9 i0 (.string ⟨#[]⟩) 1 16 Tryd.underlying27 hi hz0 hz1 hz2 rfl (by decide) _ _ _ rfl (hown1.alloc _) ⟨w1.heap.size, 0, none⟩ 1 1 [.string (strB wd)] rfl rfl ?c1 ?c2 ?c3 ?c4 ?c5 ?_)
        case c1 =>
          intro j u hj
          match j, hj with
          | 0, hj => simp at hj; subst hj; simp [Addr.add]
        case c2 => intro u hu; simp at hu; subst hu; rfl
        case c3 => unfold maxLen; omega
        case c4 => omega
        case c5 => simp; omega
        intro v' w2 hown' hgrow _
        have R := app_strs w _ hown1 hbw1 (by omega) hown' hgrow
        clear hown' hgrow hown1
        go_wp2_with (go_at_call 22; refine (HK1.out _).mono ?_; rintro e w3 ⟨j, rfl, hw3, hkj, hjs, hnpj, hscj⟩; subst w3)
        go_roundw
        case rel => exact ⟨j, ws ++ [strB wd], rfl, hjs, (by simp; omega), hnpj, R.1, R.2, by rw [HS2.out, hscj]⟩
        case measure => simp [intOf]; omega
      · have nz : ((c : Int) != 0) = true := by simp; omega
        have HF : Hid (wordsL (lst s) = .inl (p, c)) := by show _ = _; rw [HIN.out, hsc2 ws]
        clear hsc2 HIN HS HK
        go_wp2
        go_returns
        refine ⟨hbw.trans (hb1.mono hbs), ?_⟩
        rw [HF.out]
        exact ⟨hc0, hc9, rfl⟩
    · have b1 : decide ((k : Int) < (s.size : Int)) = false := by simp; omega
      obtain rfl : k = s.size := by omega
      have HF : Hid (wordsL (lst s) = .inr ws) := by show _ = _; rw [HS.out, drop_end, scan_nil]; simp [endW]
      clear HK HR HS
      go_wp2
      go_returns
      refine ⟨hbw, ?_⟩
      rw [HF.out]
      exact ⟨_, rfl, hown⟩
end Go.Proofs.YtjpoifoejbabiabDoor
