
-- The document's own Quote.
import Derived.Test.YtjpoifoejbabiabDoorF4
import Derived.Lib.AppendStr
import Derived.OwnWalk
namespace Go.Proofs.YtjpoifoejbabiabDoor
open Go.RowKit
set_option linter.unusedVariables false
set_option maxRecDepth 100000
theorem extq (s : ByteArray) (k n : Nat) : s.extract k (k + n) = strB (((lsq s).drop k).take n) := by
  apply Go.WideShapes.bytes_inj
  simp [strB, lsq]
set_option maxHeartbeats 2000000 in
theorem rone_c (s : ByteArray) (k : Nat) (w : World) (hk : k < s.size) (hm : s.size ≤ 4194304) :
    Calls Tryd.prog 55 #[.string s, .int .i64 k, .int .i64 (runLen ((lsq s).drop k))] w fun e w' => e = .returned (.string (strB (oneL ((lsq s).drop k)))) ∧ Below w.heap.size w w' := by
  have hne := dropq s k hk
  have hidx := idxq s k hk
  have hdr := dropq_cons s k hk
  obtain ⟨c, hc⟩ : ∃ c, c = s[k] := ⟨_, rfl⟩
  rw [← hc] at hidx hdr
  have hg0 : ((lsq s).drop k).getD 0 0 = c := by rw [hdr]; rfl
  have hc9 := c.toNat_lt
  have hwi := wid_in s k hk
  have hw1 := wid_pos ((lsq s).drop k)
  have hwr : wid ((lsq s).drop k) = max 1 (runLen ((lsq s).drop k)) := rfl
  have HP : Hid (∀ w, Calls Tryd.prog 54 #[.string s, .int .i64 k, .int .i64 (runLen ((lsq s).drop k))] w fun e w' => e = .returned (.bool (plainL ((lsq s).drop k))) ∧ w' = w) := fun w => rplain_c s k w hk hm
  have HONE : Hid (oneL ((lsq s).drop k) = if plainL ((lsq s).drop k) = true ∨ c.toNat = 32 then ((lsq s).drop k).take (wid ((lsq s).drop k)) else if c.toNat = 34 then [92, 34] else if c.toNat = 92 then [92, 92] else if c.toNat = 10 then [92, 110] else if c.toNat = 9 then [92, 116] else hexs (((lsq s).drop k).take (wid ((lsq s).drop k)))) := by
    show _ = _; unfold oneL; rw [hg0]
  obtain ⟨n, hn⟩ : ∃ n, n = wid ((lsq s).drop k) := ⟨_, rfl⟩
  have HX : Hid (s.extract k (k + n) = strB (((lsq s).drop k).take n)) := extq s k n
  have HH : Hid (∀ w, Calls Tryd.prog 77 #[.string (s.extract k (k + n))] w fun e w' => e = .returned (.string (strB (hexs (((lsq s).drop k).take n)))) ∧ Below w.heap.size w w') := fun w => by
    have hsz : (s.extract k (k + n)).size ≤ 4194304 := by simp; omega
    have := asHex_c (s.extract k (k + n)) w hsz
    have e : lsq (s.extract k (k + n)) = ((lsq s).drop k).take n := by rw [HX.out]; simp [lsq, strB]
    rwa [e] at this
  obtain ⟨p, hp⟩ : ∃ p, p = plainL ((lsq s).drop k) := ⟨_, rfl⟩
  obtain ⟨cn, hcn⟩ : ∃ cn : Nat, cn = c.toNat := ⟨_, rfl⟩
  obtain ⟨r, hr⟩ : ∃ r, r = runLen ((lsq s).drop k) := ⟨_, rfl⟩
  rw [← hp] at HP HONE
  rw [← hn] at HONE hwi hw1 hwr
  rw [← hcn] at HONE hidx hc9
  rw [← hr] at HP hwr ⊢
  obtain ⟨R, hR⟩ : ∃ R, R = oneL ((lsq s).drop k) := ⟨_, rfl⟩
  rw [← hR] at HONE ⊢
  obtain ⟨hx, hhx⟩ : ∃ hx, hx = strB (hexs (((lsq s).drop k).take n)) := ⟨_, rfl⟩
  have HHX : Hid (hx = strB (hexs (((lsq s).drop k).take n))) := hhx
  rw [← hhx] at HH
  have hkn : (k : Int) + (n : Int) ≤ (s.size : Int) := by omega
  clear hc hdr hg0 hn hp hcn hr hR hne hhx
  by_cases c1 : p = true ∨ cn = 32
  · have HV : Hid (R = ((lsq s).drop k).take n) := by show _ = _; rw [HONE.out, if_pos c1]
    have HT : Hid (Ending.returned (.string (s.extract k (k + n))) = .returned (.string (strB R))) := by show _ = _; rw [HX.out, HV.out]
    by_cases r0 : r = 0
    · obtain rfl : n = 1 := by omega
      subst r0
      rcases p with _ | _
      · obtain rfl : cn = 32 := by rcases c1 with h | h; cases h; exact h
        clear HONE HH c1 hwr
        go_enter Tryd.func55, Tryd.ntmps55
        go_wp2_with (go_at_call 54; refine (HP.out _).mono ?_; rintro e w1 ⟨rfl, hw1'⟩; subst w1)
        go_ret
        exact ⟨HT.out, Below.refl _ _⟩
      · clear HONE HH c1 hwr
        go_enter Tryd.func55, Tryd.ntmps55
        go_wp2_with (go_at_call 54; refine (HP.out _).mono ?_; rintro e w1 ⟨rfl, hw1'⟩; subst w1)
        go_ret
        exact ⟨HT.out, Below.refl _ _⟩
    · obtain rfl : r = n := by omega
      have b0 : ((r : Int) == 0) = false := by simp; omega
      rcases p with _ | _
      · obtain rfl : cn = 32 := by rcases c1 with h | h; cases h; exact h
        clear HONE HH c1 hwr
        go_enter Tryd.func55, Tryd.ntmps55
        go_wp2_with (go_at_call 54; refine (HP.out _).mono ?_; rintro e w1 ⟨rfl, hw1'⟩; subst w1)
        go_ret
        exact ⟨HT.out, Below.refl _ _⟩
      · clear HONE HH c1 hwr
        go_enter Tryd.func55, Tryd.ntmps55
        go_wp2_with (go_at_call 54; refine (HP.out _).mono ?_; rintro e w1 ⟨rfl, hw1'⟩; subst w1)
        go_ret
        exact ⟨HT.out, Below.refl _ _⟩
  · obtain rfl : p = false := by
      cases p with
      | false => rfl
      | true => exact absurd (.inl rfl) c1
    have n32 : ((cn : Int) == 32) = false := by simp; omega
    have hrn : r = 0 ∧ n = 1 ∨ (((r : Int) == 0) = false ∧ r = n) := by
      rcases Nat.eq_zero_or_pos r with h | h
      · exact .inl ⟨h, by omega⟩
      · exact .inr ⟨by simp; omega, by omega⟩
    have HC : Hid (R = if cn = 34 then [92, 34] else if cn = 92 then [92, 92] else if cn = 10 then [92, 110] else if cn = 9 then [92, 116] else hexs (((lsq s).drop k).take n)) := by show _ = _; rw [HONE.out, if_neg c1]
    clear HONE c1 HX hwr
    rcases hrn with ⟨rfl, rfl⟩ | ⟨b0, rfl⟩
    all_goals
      by_cases k1 : cn = 34
      · have HV : Hid (R = [92, 34]) := by show _ = _; rw [HC.out, if_pos k1]
        subst k1
        clear HC HH
        go_enter Tryd.func55, Tryd.ntmps55
        go_wp2_with (go_at_call 54; refine (HP.out _).mono ?_; rintro e w1 ⟨rfl, hw1'⟩; subst w1)
        go_ret
        exact ⟨by rw [HV.out]; rfl, Below.refl _ _⟩
      have n34 : ((cn : Int) == 34) = false := by simp; omega
      by_cases k2 : cn = 92
      · have HV : Hid (R = [92, 92]) := by show _ = _; rw [HC.out, if_neg k1, if_pos k2]
        subst k2
        clear HC HH
        go_enter Tryd.func55, Tryd.ntmps55
        go_wp2_with (go_at_call 54; refine (HP.out _).mono ?_; rintro e w1 ⟨rfl, hw1'⟩; subst w1)
        go_ret
        exact ⟨by rw [HV.out]; rfl, Below.refl _ _⟩
      have n92 : ((cn : Int) == 92) = false := by simp; omega
      by_cases k3 : cn = 10
      · have HV : Hid (R = [92, 110]) := by show _ = _; rw [HC.out, if_neg k1, if_neg k2, if_pos k3]
        subst k3
        clear HC HH
        go_enter Tryd.func55, Tryd.ntmps55
        go_wp2_with (go_at_call 54; refine (HP.out _).mono ?_; rintro e w1 ⟨rfl, hw1'⟩; subst w1)
        go_ret
        exact ⟨by rw [HV.out]; rfl, Below.refl _ _⟩
      have n10 : ((cn : Int) == 10) = false := by simp; omega
      by_cases k4 : cn = 9
      · have HV : Hid (R = [92, 116]) := by show _ = _; rw [HC.out, if_neg k1, if_neg k2, if_neg k3, if_pos k4]
        subst k4
        clear HC HH
        go_enter Tryd.func55, Tryd.ntmps55
        go_wp2_with (go_at_call 54; refine (HP.out _).mono ?_; rintro e w1 ⟨rfl, hw1'⟩; subst w1)
        go_ret
        exact ⟨by rw [HV.out]; rfl, Below.refl _ _⟩
      have n9 : ((cn : Int) == 9) = false := by simp; omega
      have HV : Hid (strB R = hx) := by show _ = _; rw [HHX.out, HC.out, if_neg k1, if_neg k2, if_neg k3, if_neg k4]
      clear HC
      go_enter Tryd.func55, Tryd.ntmps55
      go_wp2_with (first
        | (go_at_call 54; refine (HP.out _).mono ?_; rintro e w1 ⟨rfl, hw1'⟩; subst w1)
        | (go_at_call 77; refine (HH.out _).mono ?_; rintro e w1 ⟨rfl, hb1⟩))
      go_ret
      exact ⟨by rw [HV.out]; rfl, hb1⟩
theorem own_below {w w' : World} {B : Nat} {e : TypeId} {size : Nat} {v : Value} {n : Nat} {xs : List Value} (h : w.ownsRow B e size v n xs) (hb : Below w.heap.size w w') (_hB : B ≤ w.heap.size) : w'.ownsRow B e size v n xs := by
  obtain ⟨h1, h2⟩ := h
  refine ⟨h1, ?_⟩
  rcases h2 with h2 | ⟨g, cap, cur, hv, hg, hh, r⟩
  · exact .inl h2
  · refine .inr ⟨g, cap, cur, hv, hg, ?_, r⟩
    have hlt : g < w.heap.size := (Array.getElem?_eq_some_iff.1 hh).1
    rw [hb.block g hlt]; exact hh
theorem info5f : (Tryd.prog.info? 5).map (fun i => (i.zero, i.size, i.bytes)) = some (some (.int .u8 0), 1, 1) := by kernel_rfl
theorem app_str {w w' : World} {B : Nat} {v v' : Value} {l q : List UInt8} (w0 : World) (hown : w.ownsRow B 5 1 v l.length (Lib.byteCells l)) (hb : Below B w0 w) (hB : B ≤ w.heap.size)
    (hown' : w'.ownsRow B 5 1 v' (l.length + (strB q).size) (Lib.byteCells l ++ Lib.strCells (strB q))) (hg : w.grownBy w' v.ownBlock) :
    w'.ownsRow B 5 1 v' (l ++ q).length (Lib.byteCells (l ++ q)) ∧ Below B w0 w' := by
  have e1 : (strB q).size = q.length := by simp [strB, ByteArray.size]
  have e2 : Lib.strCells (strB q) = Lib.byteCells q := by rw [Lib.strCells_eq]; simp [strB]
  rw [e1, e2] at hown'
  refine ⟨by rw [Lib.byteCells_append, List.length_append]; exact hown', ?_⟩
  exact hb.grown hg hB (fun k hk => (hown.lt k hk).1)
set_option maxHeartbeats 2000000 in
theorem rquote_c (s : ByteArray) (w : World) (hm : s.size ≤ 4194304) :
    Calls Tryd.prog 36 #[.string s] w fun e w' => e = .returned (.string (strB (quoteL (lsq s)))) ∧ Below w.heap.size w w' := by
  obtain ⟨i0, hi, hz0, hz1, hz2⟩ := info_parts info5f
  have HQ : Hid (quoteL (lsq s) = if (!(lsq s).isEmpty && allPlain (lsq s)) = true then lsq s else 34 :: (bodyL (lsq s) ++ [34])) := rfl
  have HRA : Hid (∀ (k : Nat) w, k ≤ s.size → Calls Tryd.prog 53 #[.string s, .int .i64 k] w fun e w' => e = .returned (.int .i64 (runLen ((lsq s).drop k))) ∧ Below w.heap.size w w') := fun k w h => runAt_c s k w hm h
  have HRP : Hid (∀ (k : Nat) w, k < s.size → Calls Tryd.prog 54 #[.string s, .int .i64 k, .int .i64 (runLen ((lsq s).drop k))] w fun e w' => e = .returned (.bool (plainL ((lsq s).drop k))) ∧ w' = w) := fun k w h => rplain_c s k w h hm
  have HRO : Hid (∀ (k : Nat) w, k < s.size → Calls Tryd.prog 55 #[.string s, .int .i64 k, .int .i64 (runLen ((lsq s).drop k))] w fun e w' => e = .returned (.string (strB (oneL ((lsq s).drop k)))) ∧ Below w.heap.size w w') := fun k w h => rone_c s k w h hm
  have hemp : s.toList.isEmpty = (lsq s).isEmpty := by rw [ByteArray.toList_eq]; rfl
  obtain ⟨em, hem⟩ : ∃ em, em = (lsq s).isEmpty := ⟨_, rfl⟩
  rw [← hem] at hemp HQ
  clear hem
  go_enter Tryd.func36, Tryd.ntmps36
  go_wp2
  go_loopw [3, 4, 5] (fun ba v i wx => ∃ (k : Nat) (b : Bool) (acc : List UInt8), i = .int .i64 k ∧ ba = .bool (!em && b) ∧ k ≤ s.size ∧ wx.ownsRow w.heap.size 5 1 v acc.length (Lib.byteCells acc) ∧ Below w.heap.size w wx ∧ acc.length ≤ 4 * k + 1 ∧
      34 :: bodyL (lsq s) = acc ++ bodyL ((lsq s).drop k) ∧ allPlain (lsq s) = (b && allPlain ((lsq s).drop k))) (fun _ _ i _ => s.size - (intOf i).toNat)
  case atStart => exact ⟨0, true, [34], rfl, by simp, Nat.zero_le _, ⟨rfl, .inr ⟨w.heap.size, 1, _, rfl, Nat.le_refl _, heap_alloc_new w _, Nat.le_refl _, by decide, rfl, rfl⟩⟩, (Below.refl _ w).alloc (Nat.le_refl _) _, by simp, rfl, by simp⟩
  case round =>
    obtain ⟨k, b, acc, rfl, rfl, hks, hown, hbw, hal, hbody, hap⟩ := hrel
    have HBO : Hid (34 :: bodyL (lsq s) = acc ++ bodyL ((lsq s).drop k)) := hbody
    have HAP : Hid (allPlain (lsq s) = (b && allPlain ((lsq s).drop k))) := hap
    have hbs := hbw.size
    clear hbody hap
    by_cases hk : k < s.size
    · have b1 : decide ((k : Int) < (s.size : Int)) = true := by simp; omega
      have hne := dropq s k hk
      have hwi := wid_in s k hk
      have hw1 := wid_pos ((lsq s).drop k)
      have hwr : wid ((lsq s).drop k) = max 1 (runLen ((lsq s).drop k)) := rfl
      have hol := oneL_length _ hne
      have HB : Hid (bodyL ((lsq s).drop k) = oneL ((lsq s).drop k) ++ bodyL ((lsq s).drop (k + wid ((lsq s).drop k)))) := by show _ = _; rw [bodyL_cons _ hne, drop_wid]
      have HPL : Hid (allPlain ((lsq s).drop k) = (plainL ((lsq s).drop k) && allPlain ((lsq s).drop (k + wid ((lsq s).drop k))))) := by show _ = _; rw [allPlain_cons _ hne, drop_wid]
      have H1 : Hid (∀ w, Calls Tryd.prog 53 #[.string s, .int .i64 k] w fun e w' => e = .returned (.int .i64 (runLen ((lsq s).drop k))) ∧ Below w.heap.size w w') := fun w => HRA.out k w hks
      have H2 : Hid (∀ w, Calls Tryd.prog 54 #[.string s, .int .i64 k, .int .i64 (runLen ((lsq s).drop k))] w fun e w' => e = .returned (.bool (plainL ((lsq s).drop k))) ∧ w' = w) := fun w => HRP.out k w hk
      have H3 : Hid (∀ w, Calls Tryd.prog 55 #[.string s, .int .i64 k, .int .i64 (runLen ((lsq s).drop k))] w fun e w' => e = .returned (.string (strB (oneL ((lsq s).drop k)))) ∧ Below w.heap.size w w') := fun w => HRO.out k w hk
      obtain ⟨p, hp⟩ : ∃ p, p = plainL ((lsq s).drop k) := ⟨_, rfl⟩
      obtain ⟨n, hn⟩ : ∃ n, n = wid ((lsq s).drop k) := ⟨_, rfl⟩
      obtain ⟨r, hr⟩ : ∃ r, r = runLen ((lsq s).drop k) := ⟨_, rfl⟩
      obtain ⟨q, hq⟩ : ∃ q, q = oneL ((lsq s).drop k) := ⟨_, rfl⟩
      rw [← hp, ← hr] at H2
      rw [← hr] at H1
      rw [← hr, ← hq] at H3
      rw [← hn] at hwi hw1 hwr
      rw [← hr] at hwr
      rw [← hq, ← hn] at HB hol
      rw [← hp, ← hn] at HPL
      have hqs : (strB q).size = q.length := by simp [strB, ByteArray.size]
      have hb1m : acc.length + (strB q).size ≤ maxLen := by rw [hqs]; unfold maxLen; omega
      have hb2m : acc.length + (strB q).size ≤ 140737488355328 := by rw [hqs]; omega
      have hrn : r = 0 ∧ n = 1 ∨ (((r : Int) == 0) = false ∧ r = n) := by
        rcases Nat.eq_zero_or_pos r with h | h
        · exact .inl ⟨h, by omega⟩
        · exact .inr ⟨by simp; omega, by omega⟩
      clear hp hn hr hq hne hwr HRA HRP HRO HQ hqs
      rcases hrn with ⟨rfl, rfl⟩ | ⟨b0, rfl⟩
      · rcases p with _ | _
        ·
          go_wp2_with (first
            | (go_at_call 53; refine (H1.out _).mono ?_; rintro e w1 ⟨rfl, hb1⟩)
            | (go_at_call 54; refine (H2.out _).mono ?_; rintro e w2 ⟨rfl, hw2⟩; subst w2)
            | (go_at_call 55; refine (H3.out _).mono ?_; rintro e w3 ⟨rfl, hb3⟩; have hb13 := hb1.trans (hb3.mono hb1.size); have hown3 := own_below hown hb13 hbs; have s3 := hb13.size)
            | (at_builtin; refine Lib.wpList_append_own_string _ rfl _ _ 49 9 rfl w.heap.size 5 i0 Tryd.underlying49 Tryd.underlying9 hi hz0 hz1 hz2 _ _ _ rfl hown3 (strB q) rfl hb1m hb2m (Nat.le_trans hbs s3) ?_; intro v' w4 hown' hgrow _; have R := app_str w hown3 (hbw.trans (hb13.mono hbs)) (Nat.le_trans hbs s3) hown' hgrow; clear hown' hgrow))
          go_roundw
          case rel => exact ⟨k + 1, false, acc ++ q, by go_num, by simp, hwi, R.1, R.2, by simp; omega, by rw [HBO.out, HB.out]; simp, by rw [HAP.out, HPL.out]; simp⟩
          case measure => simp [intOf]; omega
        ·
          go_wp2_with (first
            | (go_at_call 53; refine (H1.out _).mono ?_; rintro e w1 ⟨rfl, hb1⟩)
            | (go_at_call 54; refine (H2.out _).mono ?_; rintro e w2 ⟨rfl, hw2⟩; subst w2)
            | (go_at_call 55; refine (H3.out _).mono ?_; rintro e w3 ⟨rfl, hb3⟩; have hb13 := hb1.trans (hb3.mono hb1.size); have hown3 := own_below hown hb13 hbs; have s3 := hb13.size)
            | (at_builtin; refine Lib.wpList_append_own_string _ rfl _ _ 49 9 rfl w.heap.size 5 i0 Tryd.underlying49 Tryd.underlying9 hi hz0 hz1 hz2 _ _ _ rfl hown3 (strB q) rfl hb1m hb2m (Nat.le_trans hbs s3) ?_; intro v' w4 hown' hgrow _; have R := app_str w hown3 (hbw.trans (hb13.mono hbs)) (Nat.le_trans hbs s3) hown' hgrow; clear hown' hgrow))
          go_roundw
          case rel => exact ⟨k + 1, b, acc ++ q, by go_num, rfl, hwi, R.1, R.2, by simp; omega, by rw [HBO.out, HB.out]; simp, by rw [HAP.out, HPL.out]; simp⟩
          case measure => simp [intOf]; omega
      · rcases p with _ | _
        ·
          go_wp2_with (first
            | (go_at_call 53; refine (H1.out _).mono ?_; rintro e w1 ⟨rfl, hb1⟩)
            | (go_at_call 54; refine (H2.out _).mono ?_; rintro e w2 ⟨rfl, hw2⟩; subst w2)
            | (go_at_call 55; refine (H3.out _).mono ?_; rintro e w3 ⟨rfl, hb3⟩; have hb13 := hb1.trans (hb3.mono hb1.size); have hown3 := own_below hown hb13 hbs; have s3 := hb13.size)
            | (at_builtin; refine Lib.wpList_append_own_string _ rfl _ _ 49 9 rfl w.heap.size 5 i0 Tryd.underlying49 Tryd.underlying9 hi hz0 hz1 hz2 _ _ _ rfl hown3 (strB q) rfl hb1m hb2m (Nat.le_trans hbs s3) ?_; intro v' w4 hown' hgrow _; have R := app_str w hown3 (hbw.trans (hb13.mono hbs)) (Nat.le_trans hbs s3) hown' hgrow; clear hown' hgrow))
          go_roundw
          case rel => exact ⟨k + r, false, acc ++ q, by go_num, by simp, hwi, R.1, R.2, by simp; omega, by rw [HBO.out, HB.out]; simp, by rw [HAP.out, HPL.out]; simp⟩
          case measure => simp [intOf]; omega
        ·
          go_wp2_with (first
            | (go_at_call 53; refine (H1.out _).mono ?_; rintro e w1 ⟨rfl, hb1⟩)
            | (go_at_call 54; refine (H2.out _).mono ?_; rintro e w2 ⟨rfl, hw2⟩; subst w2)
            | (go_at_call 55; refine (H3.out _).mono ?_; rintro e w3 ⟨rfl, hb3⟩; have hb13 := hb1.trans (hb3.mono hb1.size); have hown3 := own_below hown hb13 hbs; have s3 := hb13.size)
            | (at_builtin; refine Lib.wpList_append_own_string _ rfl _ _ 49 9 rfl w.heap.size 5 i0 Tryd.underlying49 Tryd.underlying9 hi hz0 hz1 hz2 _ _ _ rfl hown3 (strB q) rfl hb1m hb2m (Nat.le_trans hbs s3) ?_; intro v' w4 hown' hgrow _; have R := app_str w hown3 (hbw.trans (hb13.mono hbs)) (Nat.le_trans hbs s3) hown' hgrow; clear hown' hgrow))
          go_roundw
          case rel => exact ⟨k + r, b, acc ++ q, by go_num, rfl, hwi, R.1, R.2, by simp; omega, by rw [HBO.out, HB.out]; simp, by rw [HAP.out, HPL.out]; simp⟩
          case measure => simp [intOf]; omega
    · obtain rfl : k = s.size := by omega
      have b1 : decide ((s.size : Int) < (s.size : Int)) = false := by simp
      have hnil : (lsq s).drop s.size = [] := List.drop_eq_nil_of_le (by rw [lsq_len]; exact Nat.le_refl _)
      have HA : Hid (acc = 34 :: bodyL (lsq s) ∧ allPlain (lsq s) = b) := by
        refine ⟨?_, ?_⟩
        · have := HBO.out; rw [hnil, bodyL_nil, List.append_nil] at this; exact this.symm
        · have := HAP.out; rw [hnil, allPlain_nil, Bool.and_true] at this; exact this
      clear HRA HRP HRO HBO HAP hnil
      rcases hbr : (!em && b) with _ | _
      · have HQF : Hid (quoteL (lsq s) = acc ++ [34]) := by
          show _ = _; rw [HQ.out, HA.out.2, hbr, HA.out.1]; rfl
        clear HQ hbr
        have hb1m : acc.length + 1 ≤ maxLen := by unfold maxLen; omega
        go_wp2_with (at_builtin; refine wpList_append_own _ rfl _ _ 49 rfl w.heap.size 5 i0 (.int .u8 0) 1 1 Tryd.underlying49 hi hz0 hz1 hz2 rfl (by decide) _ _ _ rfl (hown.alloc _) ⟨wr.heap.size, 0, none⟩ 1 1 [.int .u8 34] rfl rfl ?c1 ?c2 ?c3 ?c4 ?c5 ?_)
        case c1 =>
          intro j u hj
          match j, hj with
          | 0, hj => simp at hj; subst hj; simp [Addr.add]
        case c2 => intro u hu; simp at hu; subst hu; rfl
        case c3 => exact hb1m
        case c4 => omega
        case c5 => simp; omega
        intro v' w4 hown' hgrow _
        have hb4 : Below w.heap.size w w4 := (hbw.alloc hbs _).grown hgrow (by simp; omega) (fun k hk => (hown.lt k hk).1)
        have hcv := conv_q w4 w.heap.size v' (acc ++ [34]) (by rw [Lib.byteCells_append, List.length_append]; exact hown')
        clear hown' hgrow hown
        go_wp2
        go_ret
        exact ⟨by rw [HQF.out]; rfl, hb4⟩
      · have HQF : Hid (quoteL (lsq s) = lsq s) := by
          show _ = _; rw [HQ.out, HA.out.2, hbr]; rfl
        clear HQ hbr
        go_wp2
        go_ret
        exact ⟨by rw [HQF.out, strB_lsq]; rfl, hbw⟩
end Go.Proofs.YtjpoifoejbabiabDoor
