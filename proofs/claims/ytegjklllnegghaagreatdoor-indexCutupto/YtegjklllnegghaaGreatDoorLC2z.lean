import Derived.Test.YtegjklllnegghaaGreatDoorM5
import Derived.Test.YtegjklllnegghaaGreatDoorBCz

-- IndexCut's walk, form 2.
namespace Go.Proofs.YtegjklllnegghaaGreatDoor
open Go.ChangeShapes Go.WideShapes Go.ChangeAt Go.RowKit
set_option linter.unusedVariables false
set_option maxRecDepth 100000
set_option maxHeartbeats 16000000 in
theorem indexCut_2 (k cut : Int) (hfk : frm k = 2) (ao : Option Addr) (c0 : Nat) (L0 : List En) (w : World) (hv : RowE w (.slice ao L0.length c0) L0) (hc0 : L0.length ≤ c0) (hT : totN (L0.map En.name) ≤ 1048576) (hX : MaxLenAt w) :
    Calls Tryz.prog 5 #[.int .i64 k, .slice ao L0.length c0, .int .i64 cut] w fun e w' => e = .returned (.bool true) ∧ Below w.heap.size w w' := by
  have hN : L0.length ≤ 1048576 := by have := totN_len (L0.map En.name); rw [List.length_map] at this; omega
  obtain ⟨f, hf⟩ : ∃ f, f = frm k := ⟨_, rfl⟩
  have hf1 : f = 2 := hf.trans hfk
  have hkf : known f := by rw [hf]; exact frm_known k
  have HFM : Hid (∀ w, Calls Tryz.prog 7 #[.int .i64 k] w fun e w' => e = .returned (.int .i64 f) ∧ w' = w) := fun w => by rw [hf]; exact formed_c k w
  have hFI := fitted_c f hkf ao c0 L0 w hv hc0 hN (fun x hx => Nat.le_trans (nm_le L0 x hx) hT)
  have h1 := fitL_len f L0
  have h2 := fitL_good f L0
  have h3 := fitL_pl f L0
  have h4 := fitL_tot f L0 hT
  obtain ⟨F, hF⟩ : ∃ F, F = fitL f L0 := ⟨_, rfl⟩
  rw [← hF] at hFI h1 h2 h3 h4
  have hln := encB_len f F hkf
  have HEN : Hid (∀ v w, RowE w v F → Calls Tryz.prog 9 #[.int .i64 f, v] w fun e w' => e = .returned (.tuple #[.string ⟨(encB f F).toArray⟩, .int .i64 0]) ∧ Below w.heap.size w w') := fun v w hv => enc_ok f hkf v F w hv h1 (by omega) h2 h3
  obtain ⟨n0, hn0⟩ : ∃ n0, n0 = F.length := ⟨_, rfl⟩
  have hhd : headN f F.length = 8 + 8 * n0 := by rw [← hn0, hf1]; unfold headN; rw [if_neg (by omega)]
  obtain ⟨T, hT0⟩ : ∃ T, T = totN (F.map En.name) := ⟨_, rfl⟩
  obtain ⟨S, hS⟩ : ∃ S, S = headN f F.length + evenN (totN (F.map En.name)) := ⟨_, rfl⟩
  have hSW : 8 + 8 * n0 + T ≤ S ∧ S ≤ 8 + 8 * n0 + T + 1 := by
    rw [hS, hhd, hT0]; unfold evenN; omega
  obtain ⟨b, hb⟩ : ∃ b : ByteArray, b = ⟨(encB f F).toArray⟩ := ⟨_, rfl⟩
  rw [← hb] at HEN
  have hbs : b.size = S := by rw [hb, hS, ← hln]; rfl
  have hbd : b.data.toList = encB f F := by rw [hb]
  have hel : (encB f F).length = S := by rw [← hbd, ← hbs]; rfl
  have HDN : Hid (∀ c : Nat, c < S → c < 8 + 8 * n0 + T → ∀ w, MaxLenAt w → Calls Tryz.prog 15 #[.int .i64 f, .string (strL (b.data.toList.take c))] w fun e w' => ∃ a cc, e = .returned (.tuple #[.slice a 0 cc, .int .i64 110]) ∧ Below w.heap.size w w') := fun c hc hcw w hx => by
    have hsz : (strL (b.data.toList.take c)).size ≤ S := by rw [strL_size, List.length_take]; have e : b.data.toList.length = S := hbs; omega
    have := pdec_c f (strL (b.data.toList.take c)) w (by omega) hx
    have hd : decA f (strL (b.data.toList.take c)).data.toList = none := by rw [strL_data, hbd]; exact cut_ok f hkf F c h1 (by omega) h2 h3 (by rw [hel]; exact hc) (fun _ => by rw [hhd, ← hT0]; exact hcw)
    unfold DSays decE decL at this
    rw [hd, if_neg (fun q => q hkf)] at this
    refine this.mono ?_
    rintro e w' ⟨a, n, cc, rfl, o, bb⟩
    obtain ⟨a2, c2, e2, -⟩ := own_freeE o
    injection e2 with _ e2 _
    subst e2
    exact ⟨a, cc, rfl, bb⟩
  have HDW : Hid (∀ w, MaxLenAt w → Calls Tryz.prog 15 #[.int .i64 f, .string (strL (b.data.toList.take (8 + 8 * n0 + T)))] w fun e w' => DecSays 0 F w e w') := fun w hx => by
    have hsz : (strL (b.data.toList.take (8 + 8 * n0 + T))).size ≤ S := by rw [strL_size, List.length_take]; have e : b.data.toList.length = S := hbs; omega
    have := pdec_c f (strL (b.data.toList.take (8 + 8 * n0 + T))) w (by omega) hx
    unfold DSays decE decL at this
    have hw := whole_ok f hkf (by omega) F h1 h2 h3
    rw [hhd, ← hT0] at hw
    have hd : decA f (strL (b.data.toList.take (8 + 8 * n0 + T))).data.toList = some F := by rw [strL_data, hbd]; exact hw
    rw [hd, if_neg (fun q => q hkf)] at this
    exact this
  have HTW : Hid (∀ ao c w, RowE w (.slice ao F.length c) F → (ao = none → c = 0) → Calls Tryz.prog 10 #[.slice ao F.length c] w fun e w' => ∃ v, e = .returned v ∧ RowE w' v F ∧ Below w.heap.size w w') := fun ao c w hv h0 => twin11_c ao c F w hv h0 (by omega)
  have HSM : Hid (∀ v1 v2 w, RowE w v1 F → RowE w v2 F → Calls Tryz.prog 16 #[v1, v2] w fun e w' => e = .returned (.bool true) ∧ ∃ m, w' = w.drewN m) := fun v1 v2 w h1' h2' => same11_c v1 v2 F w h1' h2' (by omega)
  have HU : Hid (∀ n w, Calls Tryz.prog 11 #[.int .i64 n] w fun e w' => e = .returned (.int .i64 n) ∧ w' = w) := fun n w => num_cZ n w
  have HFI := hidK hFI
  have HX := hidK hX
  rw [← hn0] at HFI HTW
  have HN0 : Hid (n0 = F.length ∧ T = totN (F.map En.name)) := ⟨hn0, hT0⟩
  have hn2 : n0 ≤ 2000 := by omega
  have hT2 : T ≤ 1050576 := by omega
  have hnI : (n0 : Int) ≤ 2000 := by omega
  have HBS : Hid (b.size = S ∧ 8 + 8 * n0 + T ≤ S ∧ S ≤ 8 + 8 * n0 + T + 1) := ⟨hbs, hSW⟩
  clear hFI hX hv hc0 hT hN hf hkf h1 h2 h3 h4 hF hln hS hb hbd hel hhd hT0 hn0 hSW hfk
  subst hf1
  go_enter Tryz.func5, Tryz.ntmps5
  go_wp2_with (first
    | (go_at_call 7; refine (HFM.out _).mono ?_; rintro e w0 ⟨rfl, rfl⟩)
    | (go_at_call 8; refine HFI.out.mono ?_; rintro e w1 ⟨ao1, c1, rfl, r1, b1, z1⟩; have R1 := hidK r1; have Z1 := hidK z1; clear r1 z1)
    | (go_at_call 10; refine (HTW.out _ _ _ R1.out Z1.out).mono ?_; rintro e w2 ⟨v2, rfl, r2, b2⟩; have R2 := hidK r2; have B2 := bel3K b1 b2; have R12 := hidK (R1.out.on b2); clear r2)
    | (go_at_call 9; refine (HEN.out _ _ R2.out).mono ?_; rintro e w3 ⟨rfl, b3⟩; have B3 := bel3K B2 b3; have R13 := hidK (R12.out.on b3); have X3 := hidK (HX.out.on B3)))
  clear HFM HFI HTW HEN
  go_loopw [11, 12] (fun u i wx => wx = w3 ∧ ∃ j : Nat, j ≤ n0 ∧ i = .int .i64 j ∧ u = .int .i64 ((8 + 8 * n0 + totN ((F.take j).map En.name) : Nat) : Int)) (fun u i _ => n0 - (intOf i).toNat)
  case atStart => exact ⟨rfl, 0, Nat.zero_le _, rfl, by simp [totN]⟩
  case round =>
    obtain ⟨rfl, j, hj, rfl, rfl⟩ := hrel
    have hle : totN ((F.take j).map En.name) ≤ T := by rw [HN0.out.2, List.map_take]; exact totN_takeK _ _
    by_cases hjn : j < n0
    · obtain ⟨⟨nm, pl⟩, hx⟩ : ∃ x, F[j]? = some x := ⟨_, List.getElem?_eq_getElem (by have := HN0.out.1; omega)⟩
      obtain ⟨b4, off4, cap4, e1, d1, d2⟩ := R13.out.atK hx
      injection e1 with e1 e2 e3
      subst e1
      simp only [] at d1 d2
      have hjI : (j : Int) < (n0 : Int) := by omega
      have hj0 : (0 : Int) ≤ (j : Int) := by omega
      have hnx : totN ((F.take (j + 1)).map En.name) = totN ((F.take j).map En.name) + (nm.size + 1) := by rw [take_snoc hx, List.map_append]; exact totN_snoc _ _
      have hle2 : totN ((F.take (j + 1)).map En.name) ≤ T := by rw [HN0.out.2, List.map_take]; exact totN_takeK _ _
      obtain ⟨t, ht⟩ : ∃ t, t = totN ((F.take j).map En.name) := ⟨_, rfl⟩
      rw [← ht] at hnx hle ⊢
      have HNX := hidK hnx
      have hnm : nm.size + 1 + t ≤ T := by omega
      have hnmI : (nm.size : Int) ≤ 1050576 := by omega
      obtain ⟨u, hu⟩ : ∃ u : Nat, u = 8 + 8 * n0 + t := ⟨_, rfl⟩
      have hub : (u : Int) ≤ 2000000 := by omega
      rw [← hu]
      have HUU := hidK hu
      clear hx e2 e3 d2 ht hnx hle hle2 hnm hu
      go_wp2
      go_roundw
      case rel => exact ⟨by first | rfl | trivial, j + 1, hjn, by go_num, by rw [HNX.out]; have := HUU.out; first | go_num | (congr 1; omega) | omega⟩
      case measure => simp [intOf]; omega
    · obtain rfl : j = n0 := by omega
      have hft : F.take j = F := List.take_of_length_le (by have := HN0.out.1; omega)
      rw [hft, ← HN0.out.2]
      obtain ⟨W, hW⟩ : ∃ W : Nat, W = 8 + 8 * j + T := ⟨_, rfl⟩
      have HWW := hidK hW
      rw [← hW]
      obtain ⟨q1, q2, q3⟩ := HBS.out
      rw [← hW] at q2 q3
      have g1 : ¬ ((S : Int) < (W : Int)) := by omega
      have g2 : ¬ ((W : Int) + 1 < (S : Int)) := by omega
      have hWI : (W : Int) ≤ 2000000 := by omega
      clear hft hle q2 q3 hW
      by_cases c1 : cut < 0
      · clear HDN HSM
        go_wp2_with (go_at_call 11; refine (HU.out _ _).mono ?_; rintro e w8 ⟨rfl, rfl⟩)
        go_ret
        exact ⟨rfl, B3⟩
      · by_cases c2 : (S : Int) ≤ cut
        · clear HDN HSM
          go_wp2_with (go_at_call 11; refine (HU.out _ _).mono ?_; rintro e w8 ⟨rfl, rfl⟩)
          go_ret
          exact ⟨rfl, B3⟩
        · obtain ⟨c, rfl⟩ : ∃ c : Nat, cut = (c : Int) := ⟨cut.toNat, by omega⟩
          have hcS : c < S := by omega
          have hsl := sliceL_to b c (by omega)
          have c2' : ¬ ((S : Int) ≤ (c : Int)) := c2
          by_cases c3 : c < W
          · have c3I : ¬ ((W : Int) ≤ (c : Int)) := by omega
            have HD0 := hidK (HDN.out c hcS (by have := HWW.out; omega))
            clear HDN HSM hcS HDW c3
            go_wp2_with (first
              | (go_at_call 15; refine (HD0.out _ X3.out).mono ?_; rintro e w6 ⟨a6, c6, rfl, b6⟩; have B6 := bel3K B3 b6)
              | (go_at_call 11; refine (HU.out _ _).mono ?_; rintro e w8 ⟨rfl, rfl⟩))
            go_ret
            exact ⟨rfl, B6⟩
          · obtain rfl : c = W := by have := HBS.out; have := HWW.out; omega
            have HD1 : Hid (∀ w, MaxLenAt w → Calls Tryz.prog 15 #[.int .i64 2, .string (strL (b.data.toList.take c))] w fun e w' => DecSays 0 F w e w') := (by rw [HWW.out]; exact HDW.out)
            clear HDN HDW hcS c3
            go_wp2_with (first
              | (go_at_call 15; refine (HD1.out _ X3.out).mono ?_; rintro e w6 ⟨a6, n6, c6, rfl, o6, b6⟩; have B6 := bel3K B3 b6; have R16 := hidK (R13.out.on b6); have R6 := hidK (rowE_own o6); clear o6)
              | (go_at_call 16; refine (HSM.out _ _ _ R6.out R16.out).mono ?_; rintro e w7 ⟨rfl, m7, rfl⟩)
              | (go_at_call 11; refine (HU.out _ _).mono ?_; rintro e w8 ⟨rfl, rfl⟩))
            go_ret
            exact ⟨rfl, below_drewR B6 _⟩
end Go.Proofs.YtegjklllnegghaaGreatDoor
