
-- What holds of a volume at any time.
import Derived.Test.YtodjgbmfmpbkjabP8
import Derived.Test.YtodjgbmfmpbkjabN2
import Derived.Test.YtodjgbmfmpbkjabD2
import Derived.Laws.Cover1
namespace Go.Proofs.Ytodjgbmfmpbkjab
open Go.RowKit
set_option linter.unusedVariables false
variable {PS : (Nat → Prop) → Nat → St → World → Prop}
set_option maxRecDepth 100000 in
set_option maxHeartbeats 8000000 in
theorem wellKept_c (C : PC PS) (B : Nat) (F : Nat → Prop) (p : Nat) (st : St) (w : World) (h : One PS B F p st w) (hw : Wf st) (hd : DW st) (hB : B ≤ w.heap.size) :
    Calls Try.prog 14 #[.pointer (some ⟨p, 0, none⟩)] w fun e w' => e = .returned (.bool true) ∧ One PS B F p st w' ∧ Below B w w' := by
  obtain ⟨L, hL⟩ : ∃ L, L = st.files := ⟨_, rfl⟩
  obtain ⟨n, hn⟩ : ∃ n, n = L.length := ⟨_, rfl⟩
  have hn64 : n ≤ 64 := by rw [hn, hL, files_len]; exact now_len hw
  have HFI : Hid (Calls Try.prog 15 #[.pointer (some ⟨p, 0, none⟩)] w fun e w' => (∃ ao cp, e = .returned (.tuple #[.slice ao n cp, .bool true]) ∧ RowF w' (.slice ao n cp) L) ∧ One PS B F p st w' ∧ Below B w w') := by
    refine (files_c C B F p st w h hw hd hB).mono ?_
    rintro e w' ⟨⟨v, rfl, ho⟩, t, hb⟩
    have hr := RowF.of_own ho
    obtain ⟨ao, cp, rfl⟩ := own_shape ho
    rw [← hL, ← hn] at hr
    exact ⟨⟨ao, cp, by rw [← hL, ← hn], hr⟩, t, hb⟩
  have b0 : decide ((64 : Int) < (n : Int)) = false := by simp; omega
  have HFN : Hid (∀ s w, Calls Try.prog 35 #[.string s] w fun e w' => e = .returned (.bool (okName s)) ∧ w' = w) := fun s w => fileName_c s w
  have HLN : Hid (n = L.length ∧ L = st.files ∧ Wf st ∧ DW st) := ⟨hn, hL, hw, hd⟩
  obtain ⟨U, hU⟩ : ∃ U : Nat → Nat, ∀ k, U k = usedIn st.bodies (st.now.take k) := ⟨_, fun _ => rfl⟩
  have HU : Hid (U 0 = 0 ∧ U n = st.used ∧ ∀ k, U k ≤ 68719476736) := by
    refine ⟨by rw [hU]; rfl, by rw [hU, hn, hL]; exact used_all st, fun k => ?_⟩
    rw [hU]
    have h1 := usedIn_le hw (st.now.take k)
    have h2 : (st.now.take k).length ≤ 64 := by rw [List.length_take]; have := now_len hw; omega
    omega
  have HFO : Hid (∀ (k : Nat) (f : Fl), L[k]? = some f → 1 ≤ f.num ∧ okName f.name = true ∧ f.bd.data.size ≤ 1073741824 ∧ f.bd.safe ≤ f.bd.data.size ∧ U (k + 1) = U k + f.bd.data.size) := fun k f hf => by
    rw [hL] at hf
    have o := file_ok hw hd hf
    exact ⟨o.num, o.ok, o.size, o.safe, by rw [hU, hU]; exact o.sum⟩
  have HLT : Hid (∀ (j k : Nat) (f g : Fl), L[j]? = some f → L[k]? = some g → j < k → ltB f.name g.name = true ∧ f.num ≠ g.num) := fun j k f g hj hk h => by
    rw [hL] at hj hk
    exact file_lt hw hd hj hk h
  have HUS : Hid (∀ W, One PS B F p st W → B ≤ W.heap.size → Calls Try.prog 36 #[.pointer (some ⟨p, 0, none⟩)] W fun e w' => e = .returned (.int .i64 (U n : Nat)) ∧ One PS B F p st w' ∧ Below B W w') := fun W t hb => (C.used F p st W t.d hw).mono (by
    rintro e w' ⟨rfl, hq⟩; rw [HU.out.2.1]; exact ⟨rfl, (t.ask hb hq).1, (t.ask hb hq).2⟩)
  obtain ⟨D, hD⟩ : ∃ D, D = st.dirs.length - 1 := ⟨_, rfl⟩
  have HPE : Hid (∀ W, One PS B F p st W → B ≤ W.heap.size → Calls Try.prog 18 #[.pointer (some ⟨p, 0, none⟩)] W fun e w' => e = .returned (.int .i64 (D : Nat)) ∧ One PS B F p st w' ∧ Below B W w') := fun W t hb => (C.pending F p st W t.d hw).mono (by
    rintro e w' ⟨rfl, hq⟩; rw [hD]; exact ⟨rfl, (t.ask hb hq).1, (t.ask hb hq).2⟩)
  clear hn hL hw hd hU h hD
  go_enter Try.func14, Try.ntmps14
  go_wp2_with (go_at_call 15; refine HFI.out.mono ?_; rintro e w1 ⟨⟨ao, cp, rfl, hr1⟩, t1, hb1⟩)
  have HT1 : Hid (One PS B F p st w1 ∧ Below B w w1 ∧ RowF w1 (.slice ao n cp) L ∧ B ≤ w1.heap.size) := ⟨t1, hb1, hr1, by have := hb1.size; omega⟩
  clear t1 hb1 hr1 HFI b0
  go_loopw [5, 6] (fun s i wr => ∃ k : Nat, s = .int .i64 (U k : Nat) ∧ i = .int .i64 k ∧ k ≤ n ∧ Below w1.heap.size w1 wr) (fun _ i _ => n - (intOf i).toNat)
  case atStart => exact ⟨0, by rw [HU.out.1]; rfl, rfl, Nat.zero_le _, Below.refl _ _⟩
  case round =>
    obtain ⟨k, rfl, rfl, hkn, hbw⟩ := hrel
    have HBW : Hid (Below w1.heap.size w1 wr) := hbw
    have hszr := hbw.size
    clear hbw
    by_cases hk : k < n
    · have kl : k < L.length := by rw [← HLN.out.1]; exact hk
      obtain ⟨f, hf⟩ : ∃ f, L[k]? = some f := ⟨_, List.getElem?_eq_getElem kl⟩
      obtain ⟨b, rfl, ca⟩ : ∃ b, ao = some ⟨b, 0, none⟩ ∧ ∀ (k : Nat) (f : Fl), L[k]? = some f → ∀ j x, f.v[j]? = some x → w1.cell? ⟨b, k * 9 + j, none⟩ = some x := by
        rcases HT1.out.2.2.1 with ⟨h0, _⟩ | ⟨b, c, hv, hc⟩
        · rw [h0] at kl; simp at kl
        · cases hv; exact ⟨b, rfl, hc⟩
      have hbl : b < w1.heap.size := World.block_lt_of_cell? w1 _ (ca k f hf 0 _ rfl)
      have HCA : Hid (∀ (W : World), W.heap[b]? = w1.heap[b]? → ∀ (k : Nat) (f : Fl), L[k]? = some f → ∀ j x, f.v[j]? = some x → W.cell? ⟨b, k * 9 + j, none⟩ = some x) := fun W hW k f hf j x hx => (World.cell?_of_block (a := ⟨b, k * 9 + j, none⟩) hW).trans (ca k f hf j x hx)
      have cr := HCA.out wr (HBW.out.block b hbl) k f hf
      obtain ⟨o1, o2, o3, o4, o5⟩ := HFO.out k f hf
      have HF : Hid (L[k]? = some f ∧ U (k + 1) = U k + f.bd.data.size) := ⟨hf, o5⟩
      clear ca hf kl o5
      obtain ⟨name, num, ⟨date, uid, gid, mode, data, safe⟩⟩ := f
      simp only at o1 o2 o3 o4
      have a0 := cr 0 _ rfl
      have a1 := cr 1 _ rfl
      have a2 := cr 2 _ rfl
      have a3 := cr 3 _ rfl
      have a4 := cr 4 _ rfl
      have a5 := cr 5 _ rfl
      have a6 := cr 6 _ rfl
      have a7 := cr 7 _ rfl
      have a8 := cr 8 _ rfl
      simp only [Nat.add_zero] at a0
      clear cr
      have b1 : decide ((k : Int) < (n : Int)) = true := by simp; omega
      have kI : (k : Int) < (n : Int) := by omega
      have d1 : decide (((data.size - safe : Nat) : Int) < 0) = false := by simp
      have d2 : decide ((data.size : Int) < ((data.size - safe : Nat) : Int)) = false := decide_eq_false (by omega)
      have d3 : decide ((num : Int) < 1) = false := by simp; omega
      have d4 : ((data.size : Int) != (data.size : Int)) = false := by simp
      obtain ⟨ls, hls⟩ : ∃ ls, ls = data.size - safe := ⟨_, rfl⟩
      have d5 : ls ≤ data.size := by omega
      rw [← hls] at d1 d2 a8
      clear hls
      have HFN2 : Hid (∀ w, Calls Try.prog 35 #[.string name] w fun e w' => e = .returned (.bool true) ∧ w' = w) := fun w => by rw [← o2]; exact HFN.out name w
      clear o2
      go_wp2_with fail
      go_at_call 35
      obtain ⟨W, hW⟩ : ∃ W, W = wr.alloc (.cells #[.int .i64 date, .int .i64 uid, .int .i64 gid, .int .i64 mode, .string name, .int .i64 data.size, .int .i64 num, .string data, .int .i64 ls] 54) := ⟨_, rfl⟩
      obtain ⟨q, hq⟩ : ∃ q, q = wr.heap.size := ⟨_, rfl⟩
      have HW : Hid (Below w1.heap.size w1 W ∧ W.heap[b]? = w1.heap[b]?) := by
        have hb2 : Below w1.heap.size w1 W := by rw [hW]; exact HBW.out.alloc hszr _
        exact ⟨hb2, hb2.block b hbl⟩
      have cr := nine_new wr (.int .i64 date) (.int .i64 uid) (.int .i64 gid) (.int .i64 mode) (.string name) (.int .i64 data.size) (.int .i64 num) (.string data) (.int .i64 ls) 54
      rw [← hW, ← hq] at cr
      rw [← hW, ← hq]
      clear hW a0 a1 a2 a3 a4 a5 a6 a7 a8
      have a4 : W.cell? ⟨q, 4, none⟩ = some (.string name) := by have := cr 4 _ rfl; simpa [Addr.add] using this
      have a5 : W.cell? ⟨q, 5, none⟩ = some (.int .i64 data.size) := by have := cr 5 _ rfl; simpa [Addr.add] using this
      have a6 : W.cell? ⟨q, 6, none⟩ = some (.int .i64 num) := by have := cr 6 _ rfl; simpa [Addr.add] using this
      have a7 : W.cell? ⟨q, 7, none⟩ = some (.string data) := by have := cr 7 _ rfl; simpa [Addr.add] using this
      have a8 : W.cell? ⟨q, 8, none⟩ = some (.int .i64 ls) := by have := cr 8 _ rfl; simpa [Addr.add] using this
      clear cr hq hszr
      refine (HFN2.out _).mono ?_
      rintro e W ⟨rfl, rfl⟩
      go_wp2_with fail
      rcases Nat.eq_zero_or_pos k with hk0 | hk0
      · have b2 : decide ((0 : Int) < (k : Int)) = false := decide_eq_false (by omega)
        go_quiet (fail)
        have HK0 : Hid (k = 0) := hk0
        clear hk0
        go_wp2_with fail
        go_loopw [9] (fun j wx => ∃ i : Nat, j = .int .i64 i ∧ i ≤ k ∧ ∃ m, wx = W.drewN m) (fun j _ => k - (intOf j).toNat)
        case atStart => exact ⟨0, rfl, Nat.zero_le _, nq, rfl⟩
        case round =>
          obtain ⟨i, rfl, hik, m, rfl⟩ := hrel
          by_cases hi : i < k
          · exact absurd hi (by rw [HK0.out]; omega)
          · obtain rfl : k = i := by omega
            have x1 : decide ((k : Int) < (k : Int)) = false := by simp
            have hu := HU.out.2.2 (k)
            go_wp2_with fail
            exact ⟨⟨k + 1, by rw [HF.out.2]; go_num, by go_num, by omega, below_drewN HW.out.1 _⟩, by simp [intOf]; omega⟩
      · obtain ⟨k', rfl⟩ : ∃ k', k = k' + 1 := ⟨k - 1, by omega⟩
        have b2 : decide ((0 : Int) < ((k' + 1 : Nat) : Int)) = true := decide_eq_true (by omega)
        obtain ⟨g, hg⟩ : ∃ g, L[k']? = some g := ⟨_, List.getElem?_eq_getElem (by rw [← HLN.out.1]; omega)⟩
        have c4 := HCA.out W HW.out.2 k' g hg 4 _ rfl
        obtain ⟨lt, _⟩ := HLT.out k' (k' + 1) g _ hg HF.out.1 (Nat.lt_succ_self _)
        simp only at lt
        obtain ⟨gn, gnn⟩ : ∃ gn, gn = g.name := ⟨_, rfl⟩
        rw [← gnn] at c4 lt
        have lt2 : Op.bytesLess gn.toList name.toList = true := lt
        have k0 : (0 : Int) ≤ (k' : Int) := by omega
        have k1 : (k' : Int) < (n : Int) := by omega
        have k2 : IntKind.i64.wrap (k' : Int) = (k' : Int) := wrap_i64 (by omega)
        clear lt gnn hg hk0
        go_quiet (fail)
        go_wp2_with fail
        go_loopw [9] (fun j wx => ∃ i : Nat, j = .int .i64 i ∧ i ≤ k' + 1 ∧ ∃ m, wx = W.drewN m) (fun j _ => k' + 1 - (intOf j).toNat)
        case atStart => exact ⟨0, rfl, Nat.zero_le _, nq, rfl⟩
        case round =>
          obtain ⟨i, rfl, hik, m, rfl⟩ := hrel
          by_cases hi : i < k' + 1
          · obtain ⟨g, hg⟩ : ∃ g, L[i]? = some g := ⟨_, List.getElem?_eq_getElem (by rw [← HLN.out.1]; omega)⟩
            have e6 := HCA.out W HW.out.2 i g hg 6 _ rfl
            obtain ⟨_, ne⟩ := HLT.out i (k' + 1) g _ hg HF.out.1 hi
            simp only at ne
            obtain ⟨gn, gnn⟩ : ∃ gn, gn = g.num := ⟨_, rfl⟩
            rw [← gnn] at e6 ne
            have x1 : decide ((i : Int) < ((k' + 1 : Nat) : Int)) = true := decide_eq_true (by omega)
            have x2 : ((gn : Int) == (num : Int)) = false := beq_false_of_ne (by omega)
            have x3 : (i : Int) < (n : Int) := by omega
            have x4 : (0 : Int) ≤ (i : Int) := by omega
            clear gnn hg
            go_wp2_with fail
            go_quiet (fail)
            go_wp2
            go_roundw
            case rel => exact ⟨i + 1, by go_num, by omega, m + nq, rfl⟩
            case measure => simp [intOf]; omega
          · obtain rfl : i = k' + 1 := by omega
            have x1 : decide (((k' + 1 : Nat) : Int) < ((k' + 1 : Nat) : Int)) = false := by simp
            have hu := HU.out.2.2 (k' + 1)
            go_wp2_with fail
            exact ⟨⟨k' + 1 + 1, by rw [HF.out.2]; go_num, by go_num, by omega, below_drewN HW.out.1 _⟩, by simp [intOf]; omega⟩
    · obtain rfl : k = n := by omega
      have b1 : decide ((k : Int) < (k : Int)) = false := by simp
      have HR : Hid (∀ W, Below w1.heap.size w1 W → One PS B F p st W ∧ B ≤ W.heap.size ∧ Below B w W) := fun W hb => ⟨HT1.out.1.below C hb, by have := hb.size; have := HT1.out.2.2.2; omega, HT1.out.2.1.trans (hb.mono HT1.out.2.2.2)⟩
      obtain ⟨x1, x2, x3⟩ := HR.out wr HBW.out
      have HX : Hid (One PS B F p st wr ∧ B ≤ wr.heap.size ∧ Below B w wr) := ⟨x1, x2, x3⟩
      have HAL : Hid (∀ (W W' : World), One PS B F p st W → W'.heap = W.heap → W'.os = W.os → W'.tape = W.tape → W'.output = W.output → One PS B F p st W' ∧ Below W.heap.size W W') := fun W W' h h1 h2 h3 h4 => by
        have hb : Below W.heap.size W W' := ⟨h2, h3, h4, by rw [h1]; exact Nat.le_refl _, fun k _ => by rw [h1]⟩
        exact ⟨h.below C hb, hb⟩
      clear x1 x2 x3
      go_wp2_with (go_at_call 36; refine (HUS.out _ HX.out.1 HX.out.2.1).mono ?_; rintro e y1 ⟨rfl, t1, u1⟩)
      have HY : Hid (One PS B F p st y1 ∧ B ≤ y1.heap.size ∧ Below B w y1) := ⟨t1, by have := u1.size; have := HX.out.2.1; omega, HX.out.2.2.trans u1⟩
      clear t1 u1
      go_at_call 18
      refine (HPE.out _ HY.out.1 HY.out.2.1).mono ?_
      rintro e y2 ⟨rfl, t2, u2⟩
      have b3 : decide ((0 : Int) ≤ (D : Int)) = true := by simp
      go_wp2_with fail
      go_ret
      exact ⟨rfl, t2, HY.out.2.2.trans u2⟩
end Go.Proofs.Ytodjgbmfmpbkjab
