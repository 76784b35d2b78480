
-- The document's Rename, New, Within and cut.
import Derived.Test.YtloljimabapicacGreatD5
namespace Go.Proofs.YtloljimabapicacGreat
open Go.RowKit
set_option linter.unusedVariables false
set_option maxHeartbeats 2000000 in
theorem rename_c (F : Nat → Prop) (p : Nat) (st : St) (bv dv : Value) (dvs : List Value) (old to : ByteArray) (w : World) (h : RefAt F p st bv dv dvs w) (hw : Wf st) :
    Calls Tryz.prog 33 #[.pointer (some ⟨p, 0, none⟩), .string old, .string to] w fun e w' => e = .returned (.int .i64 (st.rename old to).1) ∧ Did F p (st.rename old to).2 w w' := by
  have HA : Hid (∀ w, Calls Tryz.prog 62 #[.string old] w fun e w' => e = .returned (.bool (okName old)) ∧ w' = w) := fun w => fileName_c old w
  have HB : Hid (∀ w, Calls Tryz.prog 62 #[.string to] w fun e w' => e = .returned (.bool (okName to)) ∧ w' = w) := fun w => fileName_c to w
  have HH : Hid (RefAt F p st bv dv dvs w) := h
  obtain ⟨ka, hka⟩ : ∃ k, k = okName old := ⟨_, rfl⟩
  obtain ⟨kb, hkb⟩ : ∃ k, k = okName to := ⟨_, rfl⟩
  rw [← hka] at HA
  rw [← hkb] at HB
  by_cases hok : ka = false ∨ kb = false
  · have HC : Hid (st.rename old to = (32, st)) := by show _ = _; unfold St.rename; rw [if_pos (by rw [← hka, ← hkb]; exact hok)]
    clear h hw hka hkb
    have hc : ka = false ∨ (ka = true ∧ kb = false) := by cases ka <;> simp_all
    clear hok
    rcases hc with rfl | ⟨rfl, rfl⟩
    all_goals
      go_enter Tryz.func33, Tryz.ntmps33
      go_wp2_with (first
        | (go_at_call_of 62 (Value.string old); refine (HA.out _).mono ?_; rintro e w1 ⟨rfl, hw1⟩; subst w1)
        | (go_at_call 62; refine (HB.out _).mono ?_; rintro e w1 ⟨rfl, hw1⟩; subst w1))
      go_ret
      rw [HC.out]
      exact ⟨rfl, Did.of_below HH.out (Below.refl _ _)⟩
  · obtain ⟨rfl, rfl⟩ : ka = true ∧ kb = true := by cases ka <;> cases kb <;> simp_all
    have hnl := now_len hw
    obtain ⟨ql, hql⟩ : ∃ l, l = st.now.length := ⟨_, rfl⟩
    have HN : Hid (Calls Tryz.prog 39 #[.pointer (some ⟨p, 0, none⟩)] w fun e w' => (∃ ao cp, e = .returned (.agg #[.slice ao ql cp]) ∧ DirO w' 0 (.slice ao ql cp) st.now ∧ ∀ k, (Value.slice ao ql cp).ownBlock = some k → F k) ∧ Below w.heap.size w w') := now_c' F p st bv dv dvs w h hw ql hql
    obtain ⟨l0, hl0⟩ : ∃ l, l = leads st.now old := ⟨_, rfl⟩
    have HLD : Hid (∀ v wx, DirO wx 0 v st.now → Calls Tryz.prog 63 #[.agg #[v], .string old] wx fun e w' => e = .returned (.int .i64 l0) ∧ Below wx.heap.size wx w') := fun v wx hd => by rw [hl0]; exact leads_c v st.now old wx hd.dirV (by omega)
    have HK : Hid (¬ (okName old = false ∨ okName to = false)) := by rw [← hka, ← hkb]; show ¬ _; decide
    by_cases hz : l0 = 0 ∨ old = to
    · have HC : Hid (st.rename old to = (if l0 = 0 then 30 else 0, st)) := by
        show _ = _
        unfold St.rename
        rw [if_neg HK.out, ← hl0]
        by_cases h0 : l0 = 0
        · rw [if_pos h0, if_pos h0]
        · rw [if_neg h0, if_neg h0, if_pos (hz.resolve_left h0)]
      have b12 : (l0 = 0 ∧ ((l0 : Int) == 0) = true) ∨ (l0 ≠ 0 ∧ ((l0 : Int) == 0) = false ∧ (old.toList == to.toList) = true) := by
        by_cases h0 : l0 = 0
        · left; exact ⟨h0, by simp [h0]⟩
        · right; refine ⟨h0, by simp; omega, ?_⟩; rw [beq_toList]; simp [hz.resolve_left h0]
      have HB12 : Hid ((l0 = 0 ∨ l0 ≠ 0)) := by show _ ∨ _; omega
      clear h hw hok hql hl0 hz hka hkb
      rcases b12 with ⟨h0, b1⟩ | ⟨h0, b1, b2⟩
      · have HZ : Hid (l0 = 0) := h0
        clear h0
        go_enter Tryz.func33, Tryz.ntmps33
        go_wp2_with (first
          | (go_at_call_of 62 (Value.string old); refine (HA.out _).mono ?_; rintro e w1 ⟨rfl, hw1⟩; subst w1)
          | (go_at_call 62; refine (HB.out _).mono ?_; rintro e w1 ⟨rfl, hw1⟩; subst w1)
          | (go_at_call 39; refine HN.out.mono ?_; rintro e w1 ⟨⟨ao, cp, rfl, hd, hvF⟩, hb1⟩)
          | (go_at_call 63; refine (HLD.out _ _ (World.ownsRow.alloc hd _)).mono ?_; rintro e w2 ⟨rfl, hb2⟩; have hb2' := (hb1.alloc hb1.size (.cells #[.slice ao ql cp] 111)).trans (hb2.mono (by have := hb1.size; simp; omega))))
        go_ret
        rw [HC.out, if_pos HZ.out]
        exact ⟨rfl, Did.of_below HH.out hb2'⟩
      · have HZ : Hid (¬ l0 = 0) := h0
        clear h0
        go_enter Tryz.func33, Tryz.ntmps33
        go_wp2_with (first
          | (go_at_call_of 62 (Value.string old); refine (HA.out _).mono ?_; rintro e w1 ⟨rfl, hw1⟩; subst w1)
          | (go_at_call 62; refine (HB.out _).mono ?_; rintro e w1 ⟨rfl, hw1⟩; subst w1)
          | (go_at_call 39; refine HN.out.mono ?_; rintro e w1 ⟨⟨ao, cp, rfl, hd, hvF⟩, hb1⟩)
          | (go_at_call 63; refine (HLD.out _ _ (World.ownsRow.alloc hd _)).mono ?_; rintro e w2 ⟨rfl, hb2⟩; have hb2' := (hb1.alloc hb1.size (.cells #[.slice ao ql cp] 111)).trans (hb2.mono (by have := hb1.size; simp; omega))))
        go_ret
        rw [HC.out, if_neg HZ.out]
        exact ⟨rfl, Did.of_below HH.out hb2'⟩
    · have hz1 : ¬ l0 = 0 := fun e => hz (.inl e)
      have hz2 : ¬ old = to := fun e => hz (.inr e)
      obtain ⟨nx, hnx⟩ : ∃ nx, nx = with_ (without st.now old) to l0 := ⟨_, rfl⟩
      have HC : Hid (st.rename old to = (0, { st with dirs := st.dirs ++ [nx] })) := by
        show _ = _
        unfold St.rename
        rw [if_neg HK.out, ← hl0, if_neg hz1, if_neg hz2, hnx]
      have b1 : ((l0 : Int) == 0) = false := by simp; omega
      have b2 : (old.toList == to.toList) = false := by rw [beq_toList]; simp [hz2]
      have hwl := without_len st.now old
      obtain ⟨q2, hq2⟩ : ∃ q, q = without st.now old := ⟨_, rfl⟩
      rw [← hq2] at hnx hwl
      have HWO : Hid (∀ v wx, DirO wx 0 v st.now → Calls Tryz.prog 65 #[.agg #[v], .string old] wx fun e w' => (∃ v', e = .returned (.agg #[v']) ∧ DirO w' wx.heap.size v' q2) ∧ Below wx.heap.size wx w') := fun v wx hd => by rw [hq2]; exact without_c v st.now old wx hd.dirV (by omega)
      have HWI : Hid (∀ v wx, DirO wx 0 v q2 → Calls Tryz.prog 66 #[.agg #[v], .string to, .int .i64 l0] wx fun e w' => (∃ v', e = .returned (.agg #[v']) ∧ DirO w' wx.heap.size v' nx) ∧ Below wx.heap.size wx w') := fun v wx hd => by rw [hnx]; exact with_c v q2 to l0 wx hd.dirV (by omega)
      have HLG : Hid (st.dirs.length ≤ 2097152) := hw.long
      clear h hw hok hql hl0 hz hka hkb hz1 hz2 hnx hq2
      go_enter Tryz.func33, Tryz.ntmps33
      go_wp2_with (first
        | (go_at_call_of 62 (Value.string old); refine (HA.out _).mono ?_; rintro e w1 ⟨rfl, hw1⟩; subst w1)
        | (go_at_call 62; refine (HB.out _).mono ?_; rintro e w1 ⟨rfl, hw1⟩; subst w1)
        | (go_at_call 39; refine HN.out.mono ?_; rintro e w1 ⟨⟨ao, cp, rfl, hd, hvF⟩, hb1⟩)
        | (go_at_call 63; refine (HLD.out _ _ (World.ownsRow.alloc hd _)).mono ?_; rintro e w2 ⟨rfl, hb2⟩; have hb2' := (hb1.alloc hb1.size (.cells #[.slice ao ql cp] 111)).trans (hb2.mono (by have := hb1.size; simp; omega)); have hd2 := dir_below (World.ownsRow.alloc hd _) hb2; have c9 : w2.cell? ⟨w1.heap.size, 0, none⟩ = some (.slice ao ql cp) := cell_below hb2 (by simp))
        | (go_at_call 65; refine (HWO.out _ _ hd2).mono ?_; rintro e w4 ⟨⟨v4, rfl, hd4⟩, hb4⟩; obtain ⟨ao4, cp4, rfl⟩ := own_shape hd4; have hd4' : DirO (w4.alloc (.cells #[.slice ao4 q2.length cp4] 111)) 0 (.slice ao4 q2.length cp4) q2 := own_mono (World.ownsRow.alloc hd4 _) (Nat.zero_le _))
        | (go_at_call 66; refine (HWI.out _ _ hd4').mono ?_; rintro e w7 ⟨⟨v7, rfl, hd7⟩, hb7⟩; obtain ⟨ao7, cp7, rfl⟩ := own_shape hd7))
      have hb5 : Below w2.heap.size w2 (w4.alloc (.cells #[.slice ao4 q2.length cp4] 111)) := hb4.alloc hb4.size _
      have hs5 := hb5.size
      have hb8 : Below w2.heap.size w2 (w7.alloc (.cells #[.slice ao7 nx.length cp7] 111)) := (hb5.trans (hb7.mono hs5)).alloc (Nat.le_trans hs5 hb7.size) _
      have r2 := HH.out.below hb2'
      have r5 := (r2.below hb8).mono (G := ext F w2 (w7.alloc (.cells #[.slice ao7 nx.length cp7] 111))) (fun k hk => .inl hk)
      have hd8 : DirO (w7.alloc (.cells #[.slice ao7 nx.length cp7] 111)) w2.heap.size (.slice ao7 nx.length cp7) nx := own_mono (World.ownsRow.alloc hd7 _) hs5
      have hC := change_c _ p _ _ _ _ _ nx _ r5 HLG.out (own_mono hd8 (Nat.zero_le _)) (fun k hk => .inr (World.ownsRow.lt hd8 k hk))
      have HCC : Hid (Calls Tryz.prog 67 #[.pointer (some ⟨p, 0, none⟩), .agg #[.slice ao7 nx.length cp7]] (w7.alloc (.cells #[.slice ao7 nx.length cp7] 111)) fun e w' => e = .returned (.tuple #[]) ∧ Did F p (st.rename old to).2 w w') := hC.mono (by
        rintro e w6 ⟨rfl, dv', rr, kk⟩
        refine ⟨rfl, Did.after hb2' ((Did.of_below r2 hb8).then ?_)⟩
        rw [HC.out]
        exact ⟨⟨_, _, _, rr⟩, kk⟩)
      clear hC hd8 r5 hb5 hb8 r2 hd4 hb4 hd7 hb7 hd4'
      go_wp2_with (go_at_call 67; refine HCC.out.mono ?_; rintro e w6 ⟨rfl, hD⟩)
      go_ret
      rw [HC.out] at hD ⊢
      exact ⟨rfl, hD⟩
theorem refNew_no (c : Int) (w : World) (h : c < 0 ∨ 1073741824 < c) : Calls Tryz.prog 37 #[.int .i64 c] w fun e w' => e = .returned (.pointer none) ∧ w' = w := by
  by_cases h0 : c < 0
  · have b1 : decide (c < 0) = true := by simp [h0]
    go_enter Tryz.func37, Tryz.ntmps37
    go_wp2
    go_ret
    exact ⟨rfl, rfl⟩
  · have b1 : decide (c < 0) = false := by simp [h0]
    have b2 : decide (1073741824 < c) = true := by simp; omega
    go_enter Tryz.func37, Tryz.ntmps37
    go_wp2
    go_ret
    exact ⟨rfl, rfl⟩
theorem refNew_c (c : Nat) (w : World) (h : c ≤ 1073741824) : Calls Tryz.prog 37 #[.int .i64 c] w fun e w' => e = .returned (.pointer (some ⟨w.heap.size + 1, 0, none⟩)) ∧ RefSt (fun k => w.heap.size ≤ k ∧ k < w'.heap.size) (w.heap.size + 1) (St.new c) w' ∧ Below w.heap.size w w' := by
  have b1 : decide ((c : Int) < 0) = false := by simp
  have b2 : decide (1073741824 < (c : Int)) = false := by simp; omega
  go_enter Tryz.func37, Tryz.ntmps37
  go_wp2
  go_ret
  have hb : Below w.heap.size w ((w.alloc (.cells #[.slice none 0 0] 111)).alloc (.cells #[.int .i64 c, .slice none 0 0, .slice (some ⟨w.heap.size, 0, none⟩) 1 1] 144)) := ((Below.refl _ w).alloc (Nat.le_refl _) _).alloc (by simp) _
  have hsz : ((w.alloc (.cells #[.slice none 0 0] 111)).alloc (.cells #[.int .i64 c, .slice none 0 0, .slice (some ⟨w.heap.size, 0, none⟩) 1 1] 144)).heap.size = w.heap.size + 2 := by simp
  refine ⟨rfl, ⟨.slice none 0 0, .slice (some ⟨w.heap.size, 0, none⟩) 1 1, [.slice none 0 0], ?_⟩, hb⟩
  refine ⟨⟨by omega, by rw [hsz]; omega⟩, heap_alloc2_new w _ _, World.ownsRow_nil _ _ _ _, (fun k hk => by cases hk), ?_, ?_, ?_⟩
  · exact ⟨rfl, .inr ⟨w.heap.size, 1, #[.slice none 0 0], rfl, Nat.zero_le _, heap_alloc2_old w _ _, Nat.le_refl _, by decide, rfl, rfl⟩⟩
  · intro k hk
    simp only [Value.ownBlock, Option.some.injEq] at hk; subst hk
    exact ⟨Nat.le_refl _, by rw [hsz]; omega⟩
  · intro i d hi
    have h0 : i = 0 := by
      rcases Nat.eq_zero_or_pos i with h0 | h0
      · exact h0
      · rw [show (St.new c).dirs = [[]] from rfl, List.getElem?_eq_none (by simp; omega)] at hi; cases hi
    subst h0
    have hi' : d = [] := by simpa [St.new] using hi.symm
    subst hi'
    exact ⟨.slice none 0 0, rfl, World.ownsRow_nil _ _ _ _, fun k hk => by cases hk⟩
theorem within_c (n lo hi : Int) (w : World) : Calls Tryz.prog 82 #[.int .i64 n, .int .i64 lo, .int .i64 hi] w fun e w' => e = .returned (.int .i64 (within n lo hi)) ∧ w' = w := by
  unfold within
  by_cases h1 : n < lo
  · have b1 : decide (n < lo) = true := by simp [h1]
    rw [if_pos h1]
    go_enter Tryz.func82, Tryz.ntmps82
    go_wp2
    go_ret
    exact ⟨rfl, rfl⟩
  · have b1 : decide (n < lo) = false := by simp [h1]
    rw [if_neg h1]
    by_cases h2 : hi < n
    · have b2 : decide (hi < n) = true := by simp [h2]
      rw [if_pos h2]
      go_enter Tryz.func82, Tryz.ntmps82
      go_wp2
      go_ret
      exact ⟨rfl, rfl⟩
    · have b2 : decide (hi < n) = false := by simp [h2]
      rw [if_neg h2]
      go_enter Tryz.func82, Tryz.ntmps82
      go_wp2
      go_ret
      exact ⟨rfl, rfl⟩
set_option maxHeartbeats 2000000 in
theorem cut_c (v : Value) (cuts : List Int) (j loose : Nat) (w : World) (h : RowI w v cuts) (hl : cuts.length ≤ 4194304) (hj : j ≤ 4194304) (hlo : loose ≤ 1073741824) :
    Calls Tryz.prog 83 #[v, .int .i64 j, .int .i64 loose] w fun e w' => e = .returned (.int .i64 (cutOf cuts j loose)) ∧ w' = w := by
  rcases h with ⟨rfl, ao, c, rfl⟩ | ⟨b, off, cap, rfl, hp, hc⟩
  · go_enter Tryz.func83, Tryz.ntmps83
    go_wp2
    go_ret
    exact ⟨rfl, rfl⟩
  · have hm : j % cuts.length < cuts.length := Nat.mod_lt _ hp
    have c0 := hc _ hm
    have HW : Hid (∀ w, Calls Tryz.prog 82 #[.int .i64 (cuts.getD (j % cuts.length) 0), .int .i64 0, .int .i64 loose] w fun e w' => e = .returned (.int .i64 (cutOf cuts j loose)) ∧ w' = w) := fun w => by
      obtain ⟨m, h1, h2⟩ := within_nat (cuts.getD (j % cuts.length) 0) loose
      have := within_c (cuts.getD (j % cuts.length) 0) 0 loose w
      have e1 : (cutOf cuts j loose : Int) = within (cuts.getD (j % cuts.length) 0) 0 loose := by
        unfold cutOf; rw [if_neg (by intro e; rw [e] at hp; simp at hp), h1]; simp
      rw [e1]; exact this
    obtain ⟨n, hn⟩ : ∃ n, n = cuts.length := ⟨_, rfl⟩
    rw [← hn] at hl hp hm c0 HW ⊢
    obtain ⟨r, hr⟩ : ∃ r, r = j % n := ⟨_, rfl⟩
    rw [← hr] at hm c0 HW
    obtain ⟨x, hx⟩ : ∃ x, x = cuts.getD r 0 := ⟨_, rfl⟩
    rw [← hx] at c0 HW
    obtain ⟨res, hres⟩ : ∃ x, x = cutOf cuts j loose := ⟨_, rfl⟩
    rw [← hres] at HW ⊢
    have b0 : ((n : Int) == 0) = false := by simp; omega
    have b1 : (j : Int).tmod (n : Int) = (r : Int) := by rw [hr]; simp [Int.tmod]
    have i1 : (r : Int) < (n : Int) := by omega
    have i2 : (0 : Int) ≤ (r : Int) := by omega
    clear hn hr hx hres hc
    go_enter Tryz.func83, Tryz.ntmps83
    go_wp2_with (go_at_call 82; refine (HW.out _).mono ?_; rintro e w1 ⟨rfl, hw1⟩; subst w1)
    go_ret
    exact ⟨rfl, rfl⟩
end Go.Proofs.YtloljimabapicacGreat
