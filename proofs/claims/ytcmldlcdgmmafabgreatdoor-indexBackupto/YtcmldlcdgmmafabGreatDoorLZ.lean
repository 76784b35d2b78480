
-- IndexBack's walk.
import Derived.Test.YtcmldlcdgmmafabGreatDoorLY1
import Derived.Test.YtcmldlcdgmmafabGreatDoorLY2
import Derived.Test.YtcmldlcdgmmafabGreatDoorLY3
import Derived.Test.YtcmldlcdgmmafabGreatDoorBL
import Derived.Test.YtcmldlcdgmmafabGreatDoorSE
import Derived.Test.YtcmldlcdgmmafabGreatDoorPD
import Derived.Test.YtcmldlcdgmmafabGreatDoorDL
namespace Go.Proofs.YtcmldlcdgmmafabGreatDoor
open Go.ChangeShapes Go.WideShapes Go.ChangeAt Go.RowKit
set_option linter.unusedVariables false
set_option maxRecDepth 100000
theorem num_cZ (n : Int) (w : World) : Calls Tryz.prog 10 #[.int .i64 n] w fun e w' => e = .returned (.int .i64 n) ∧ w' = w := by
  go_enter Tryz.func10, Tryz.ntmps10
  go_wp2
  go_ret
  exact ⟨rfl, rfl⟩
theorem RowE.takeZ {w : World} {ao : Option Addr} {n c m : Nat} {L : List En} (h : RowE w (.slice ao n c) L) (hm : m ≤ L.length) (hn : n = L.length) : RowE w (.slice ao m c) (L.take m) := by
  rcases h with ⟨rfl, ao', c', e⟩ | ⟨b, off, cap, e, hc⟩
  · simp at hm; subst hm
    exact .inl ⟨rfl, ao, c, rfl⟩
  · injection e with e1 e2 e3
    subst e1; subst e3
    refine .inr ⟨b, off, c, by rw [List.length_take, Nat.min_eq_left hm], fun j x hx => ?_⟩
    have hj : j < m := by have := (List.getElem?_eq_some_iff.1 hx).1; rw [List.length_take] at this; omega
    rw [List.getElem?_take_of_lt hj] at hx
    exact hc j x hx
/-- what is written of a list -/
def fitL (f : Int) (L : List En) : List En := (L.take 2000).map (fitE f)
theorem fitted_c (f : Int) (hf : known f) (ao : Option Addr) (c : Nat) (L : List En) (w : World) (hv : RowE w (.slice ao L.length c) L) (hc : L.length ≤ c) (hN : L.length ≤ 1048576) (hz : ∀ x ∈ L, x.name.size ≤ 1048576) :
    Calls Tryz.prog 7 #[.int .i64 f, .slice ao L.length c] w fun e w' => ∃ ao' c', e = .returned (.slice ao' (fitL f L).length c') ∧ RowE w' (.slice ao' (fitL f L).length c') (fitL f L) ∧ Below w.heap.size w w' ∧ (ao' = none → c' = 0) := by
  have hfl : (fitL f L).length = (L.take 2000).length := by unfold fitL; rw [List.length_map]
  rw [hfl]
  unfold fitL
  by_cases hb : L.length ≤ 2000
  · have e : L.take 2000 = L := List.take_of_length_le hb
    rw [e]
    rcases hf with rfl | rfl | rfl
    · exact fitted_1a ao L.length c L w rfl hv hc hb hN hz
    · exact fitted_2a ao L.length c L w rfl hv hc hb hN hz
    · exact fitted_3a ao L.length c L w rfl hv hc hb hN hz
  · have hl : (L.take 2000).length = 2000 := by rw [List.length_take]; omega
    have hv2 := hv.takeZ (m := 2000) (by omega) rfl
    have hz2 : ∀ x ∈ L.take 2000, x.name.size ≤ 1048576 := fun x hx => hz x (List.mem_of_mem_take hx)
    rcases hf with rfl | rfl | rfl
    · exact fitted_1b ao L.length c (L.take 2000) w hl hv2 hc (by omega) hN hz2
    · exact fitted_2b ao L.length c (L.take 2000) w hl hv2 hc (by omega) hN hz2
    · exact fitted_3b ao L.length c (L.take 2000) w hl hv2 hc (by omega) hN hz2
theorem fitL_len (f : Int) (L : List En) : (fitL f L).length ≤ 2000 := by unfold fitL; rw [List.length_map, List.length_take]; omega
theorem fitL_good (f : Int) (L : List En) : goodAll ((fitL f L).map En.name) = true := by
  unfold goodAll
  rw [List.all_eq_true]
  intro s hs
  obtain ⟨x, hx, rfl⟩ := List.mem_map.1 hs
  unfold fitL at hx
  obtain ⟨y, hy, rfl⟩ := List.mem_map.1 hx
  exact gdN_good y.name
theorem fitL_pl (f : Int) (L : List En) : ∀ x ∈ fitL f L, 0 ≤ x.pl ∧ x.pl < 9223372036854775808 ∧ (¬ f = 2 → x.pl < 4294967296) := by
  intro x hx
  unfold fitL at hx
  obtain ⟨y, hy, rfl⟩ := List.mem_map.1 hx
  show 0 ≤ fitP f y.pl ∧ fitP f y.pl < _ ∧ (¬ f = 2 → fitP f y.pl < _)
  unfold fitP
  split <;> omega
theorem tot_gd (l : List En) (f : Int) : totN ((l.map (fitE f)).map En.name) ≤ totN (l.map En.name) + l.length := by
  induction l with
  | nil => simp [totN]
  | cons x r ih =>
    simp only [List.map_cons, totN, List.length_cons]
    have : (fitE f x).name.size ≤ x.name.size + 1 := gdN_size x.name
    omega
theorem fitL_tot (f : Int) (L : List En) (h : totN (L.map En.name) ≤ 1048576) : totN ((fitL f L).map En.name) ≤ 1050576 := by
  have h1 := tot_gd (L.take 2000) f
  have h2 : totN ((L.take 2000).map En.name) ≤ totN (L.map En.name) := by rw [List.map_take]; exact totN_takeK _ _
  have h3 : (L.take 2000).length ≤ 2000 := by rw [List.length_take]; omega
  unfold fitL; omega
theorem enc_ok (f : Int) (hf : known f) (v : Value) (L : List En) (w : World) (hv : RowE w v L) (hL : L.length ≤ 2000) (hT : totN (L.map En.name) ≤ 2147483648) (hg : goodAll (L.map En.name) = true) (hp : ∀ x ∈ L, 0 ≤ x.pl ∧ x.pl < 9223372036854775808 ∧ (¬ f = 2 → x.pl < 4294967296)) :
    Calls Tryz.prog 8 #[.int .i64 f, v] w fun e w' => e = .returned (.tuple #[.string ⟨(encB f L).toArray⟩, .int .i64 0]) ∧ Below w.heap.size w w' := by
  rcases hf with rfl | rfl | rfl
  · have e : encB 1 L = encB1 L := by unfold encB; rw [if_pos rfl]
    rw [e]; exact enc1_ok v L w hv hL hT hg fun x hx => ⟨(hp x hx).1, (hp x hx).2.2 (by omega)⟩
  · have e : encB 2 L = encB2 L := by unfold encB; rw [if_neg (by omega), if_pos rfl]
    rw [e]; exact enc2_ok v L w hv hL hT hg fun x hx => ⟨(hp x hx).1, (hp x hx).2.1⟩
  · have e : encB 3 L = encB3 L := by unfold encB; rw [if_neg (by omega), if_neg (by omega)]
    rw [e]; exact enc3_ok v L w hv hL hT hg fun x hx => ⟨(hp x hx).1, (hp x hx).2.2 (by omega)⟩
theorem back_ok (f : Int) (hf : known f) (L : List En) (hL : L.length ≤ 2000) (hT : totN (L.map En.name) ≤ 2147483648) (hg : goodAll (L.map En.name) = true) (hp : ∀ x ∈ L, 0 ≤ x.pl ∧ x.pl < 9223372036854775808 ∧ (¬ f = 2 → x.pl < 4294967296)) : decA f (encB f L) = some L := by
  rcases hf with rfl | rfl | rfl
  · have e : encB 1 L = encB1 L := by unfold encB; rw [if_pos rfl]
    rw [e]; exact back1 L hL hg fun x hx => ⟨(hp x hx).1, (hp x hx).2.2 (by omega)⟩
  · have e : encB 2 L = encB2 L := by unfold encB; rw [if_neg (by omega), if_pos rfl]
    rw [e]; exact back2 L hL hg fun x hx => ⟨(hp x hx).1, (hp x hx).2.1⟩
  · have e : encB 3 L = encB3 L := by unfold encB; rw [if_neg (by omega), if_neg (by omega)]
    rw [e]; exact back3 L hL hT hg fun x hx => ⟨(hp x hx).1, (hp x hx).2.2 (by omega)⟩
theorem nm_le (L : List En) : ∀ x ∈ L, x.name.size ≤ totN (L.map En.name) := by
  induction L with
  | nil => intro x hx; simp at hx
  | cons y r ih =>
    intro x hx
    simp only [List.map_cons, totN]
    rcases List.mem_cons.1 hx with rfl | h
    · omega
    · have := ih x h; omega
set_option maxHeartbeats 8000000 in
theorem indexBack_w (k : Int) (ao : Option Addr) (c : Nat) (L0 : List En) (w : World) (hv : RowE w (.slice ao L0.length c) L0) (hc : L0.length ≤ c) (hT : totN (L0.map En.name) ≤ 1048576) (hX : MaxLenAt w) :
    Calls Tryz.prog 5 #[.int .i64 k, .slice ao L0.length c] w fun e w' => e = .returned (.bool true) ∧ Below w.heap.size w w' := by
  have hN : L0.length ≤ 1048576 := by have := totN_len (L0.map En.name); rw [List.length_map] at this; omega
  obtain ⟨f, hf⟩ : ∃ f, f = frm k := ⟨_, rfl⟩
  have hkf : known f := by rw [hf]; exact frm_known k
  have HFM : Hid (∀ w, Calls Tryz.prog 6 #[.int .i64 k] w fun e w' => e = .returned (.int .i64 f) ∧ w' = w) := fun w => by rw [hf]; exact formed_c k w
  have hFI := fitted_c f hkf ao c L0 w hv hc hN (fun x hx => Nat.le_trans (nm_le L0 x hx) hT)
  have h1 := fitL_len f L0
  have h2 := fitL_good f L0
  have h3 := fitL_pl f L0
  have h4 := fitL_tot f L0 hT
  obtain ⟨F, hF⟩ : ∃ F, F = fitL f L0 := ⟨_, rfl⟩
  rw [← hF] at hFI h1 h2 h3 h4
  have hbk := back_ok f hkf F h1 (by omega) h2 h3
  have hln := encB_len f F hkf
  have HEN : Hid (∀ v w, RowE w v F → Calls Tryz.prog 8 #[.int .i64 f, v] w fun e w' => e = .returned (.tuple #[.string ⟨(encB f F).toArray⟩, .int .i64 0]) ∧ Below w.heap.size w w') := fun v w hv => enc_ok f hkf v F w hv h1 (by omega) h2 h3
  obtain ⟨S, hS⟩ : ∃ S, S = headN f F.length + evenN (totN (F.map En.name)) := ⟨_, rfl⟩
  have hS2 : S % 2 = 0 := by
    rw [hS]; unfold headN evenN; split <;> omega
  have hSb : S ≤ 1100000 := by
    rw [hS]; unfold headN evenN; split <;> omega
  have HSZ : Hid (∀ v w, RowS w v (F.map En.name) → Calls Tryz.prog 14 #[.int .i64 f, v] w fun e w' => e = .returned (.tuple #[.int .i64 (S : Nat), .int .i64 0]) ∧ Below w.heap.size w w') := fun v w hv => by
    have := psize_c f v (F.map En.name) w hv (by omega)
    rw [sizeA_ok hkf h2, List.length_map, ← hS] at this
    exact this
  obtain ⟨b, hb⟩ : ∃ b : ByteArray, b = ⟨(encB f F).toArray⟩ := ⟨_, rfl⟩
  rw [← hb] at HEN
  have hbs : b.size = S := by rw [hb, hS, ← hln]; rfl
  have hbd : b.data.toList = encB f F := by rw [hb]
  have HDE : Hid (∀ w, MaxLenAt w → Calls Tryz.prog 11 #[.int .i64 f, .string b] w fun e w' => DecSays 0 F w e w') := fun w hx => by
    have := pdec_c f b w (by omega) hx
    unfold DSays decE decL at this
    rw [hbd, hbk, if_neg (fun q => q hkf)] at this
    exact this
  have HTW : Hid (∀ ao c w, RowE w (.slice ao F.length c) F → (ao = none → c = 0) → Calls Tryz.prog 9 #[.slice ao F.length c] w fun e w' => ∃ v, e = .returned v ∧ RowE w' v F ∧ Below w.heap.size w w') := fun ao c w hv h0 => twin11_c ao c F w hv h0 (by omega)
  have HNM : Hid (∀ v w, RowE w v F → Calls Tryz.prog 15 #[v] w fun e w' => ∃ r, e = .returned r ∧ RowS w' r (F.map En.name) ∧ Below w.heap.size w w') := fun v w hv => names11_c v F w hv (by omega)
  have HSM : Hid (∀ v1 v2 w, RowE w v1 F → RowE w v2 F → Calls Tryz.prog 12 #[v1, v2] w fun e w' => e = .returned (.bool true) ∧ ∃ m, w' = w.drewN m) := fun v1 v2 w h1' h2' => same11_c v1 v2 F w h1' h2' (by omega)
  have HU : Hid (∀ n w, Calls Tryz.prog 10 #[.int .i64 n] w fun e w' => e = .returned (.int .i64 n) ∧ w' = w) := fun n w => num_cZ n w
  have HFI := hidK hFI
  have HX := hidK hX
  have hr1 : (S : Int).tmod 2 = 0 := by rw [Int.tmod_eq_emod_of_nonneg (by omega)]; omega
  obtain ⟨n0, hn0⟩ : ∃ n0, n0 = F.length := ⟨_, rfl⟩
  rw [← hn0] at HFI HTW
  have hSI : (S : Int) ≤ 1100000 := by omega
  have HBS : Hid (b.size = S) := hbs
  clear hFI hX hv hc hT hN hf hkf h1 h2 h3 h4 hF hbk hln hS hb hbd hS2 hSb hn0
  go_enter Tryz.func5, Tryz.ntmps5
  go_wp2_with (first
    | (go_at_call 6; refine (HFM.out _).mono ?_; rintro e w0 ⟨rfl, rfl⟩)
    | (go_at_call 7; refine HFI.out.mono ?_; rintro e w1 ⟨ao1, c1, rfl, r1, b1, z1⟩; have R1 := hidK r1; have Z1 := hidK z1; clear r1 z1)
    | (go_at_call 9; refine (HTW.out _ _ _ R1.out Z1.out).mono ?_; rintro e w2 ⟨v2, rfl, r2, b2⟩; have R2 := hidK r2; have B2 := bel3K b1 b2; have R12 := hidK (R1.out.on b2); clear r2)
    | (go_at_call 8; refine (HEN.out _ _ R2.out).mono ?_; rintro e w3 ⟨rfl, b3⟩; have B3 := bel3K B2 b3; have R13 := hidK (R12.out.on b3))
    | (go_at_call 15; refine (HNM.out _ _ R13.out).mono ?_; rintro e w4 ⟨v4, rfl, r4, b4⟩; have R4 := hidK r4; have B4 := bel3K B3 b4; have R14 := hidK (R13.out.on b4); clear r4)
    | (go_at_call 14; refine (HSZ.out _ _ R4.out).mono ?_; rintro e w5 ⟨rfl, b5⟩; have B5 := bel3K B4 b5; have R15 := hidK (R14.out.on b5); have X5 := hidK (HX.out.on B5))
    | (go_at_call 11; refine (HDE.out _ X5.out).mono ?_; rintro e w6 ⟨a6, n6, c6, rfl, o6, b6⟩; have B6 := bel3K B5 b6; have R16 := hidK (R15.out.on b6); have R6 := hidK (rowE_own o6); clear o6)
    | (go_at_call 12; refine (HSM.out _ _ _ R6.out R16.out).mono ?_; rintro e w7 ⟨rfl, m7, rfl⟩)
    | (go_at_call 10; refine (HU.out _ _).mono ?_; rintro e w8 ⟨rfl, rfl⟩))
  go_ret
  exact ⟨rfl, below_drewR B6 _⟩
end Go.Proofs.YtcmldlcdgmmafabGreatDoor
