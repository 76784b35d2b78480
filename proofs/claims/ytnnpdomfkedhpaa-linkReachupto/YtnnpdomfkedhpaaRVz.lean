import Derived.Test.YtnnpdomfkedhpaaM2

-- shelves.
namespace Go.Proofs.Ytnnpdomfkedhpaa
open Go.ChangeShapes Go.WideShapes Go.ChangeAt Go.RowKit Go.MapKept
set_option linter.unusedVariables false
set_option maxRecDepth 100000
theorem set_same {α : Type} {l : List α} {q : Nat} {x : α} (h : l[q]? = some x) : l.set q x = l := by
  apply List.ext_getElem?
  intro j
  by_cases e : q = j
  · subst e; rw [List.getElem?_set_self (List.getElem?_eq_some_iff.1 h).1, h]
  · rw [List.getElem?_set_ne e]
set_option maxHeartbeats 16000000 in
theorem shelves_c (v : Value) (ovs : List Ov) (O : List Ob) (kf : Nat → Int) (bk : Bool) (w : World) (hV : ObsAt (fun b => w.heap.size ≤ b) w v ovs O) (hn : O.length ≤ 1000) (hM : ∀ o ∈ O, o.df.length ≤ 1048576) (hk : ∀ (i : Nat) (y : Ov), ovs[i]? = some y → 0 ≤ y.k ∧ y.k ≤ 2 ∧ kf i = if bk then 2 - y.k else y.k) :
    Calls Try.prog 6 #[v, .bool bk] w fun e w' => ∃ g R, e = .returned (.slice (some ⟨g, 0, none⟩) 3 3) ∧ ShB w.heap.size g w' R ∧ R.map (·.L) = shelvesN O kf ((List.range O.length).map (ixf bk O.length)) ∧ Below w.heap.size w w' := by
  obtain ⟨a1, c1, q1, _, _⟩ := hV.row.row.form
  obtain ⟨n, hnn⟩ : ∃ n, n = O.length := ⟨_, rfl⟩
  have HN := hidK hnn
  have HL := hidK hV.len
  rw [hV.len, ← hnn] at q1
  subst q1
  have HOB : Hid (∀ W, Kp (fun b => w.heap.size ≤ b) w W → ObsAt (fun b => w.heap.size ≤ b) W (.slice a1 n c1) ovs O) := fun W hb => hV.kp hb
  have HM := hidK hM
  have HK := hidK hk
  rw [← hnn] at hn ⊢
  obtain ⟨Z, hZ⟩ : ∃ Z, Z = Obj.cells ((List.replicate 3 emptyLv).flatMap lvL).toArray 45 := ⟨_, rfl⟩
  have hmk := mk_libs w
  rw [← hZ] at hmk
  obtain ⟨w1, hw1⟩ : ∃ w1, w1 = w.alloc Z := ⟨_, rfl⟩
  have HS1 : Hid (ShB w.heap.size w.heap.size w1 [noSh, noSh, noSh]) := by rw [hw1, hZ]; exact shB_start (Nat.le_refl _)
  have HB1 : Hid (Kp (fun b => w.heap.size ≤ b) w w1) := by rw [hw1]; exact Kp.of_below ((Below.refl _ w).alloc (Nat.le_refl _) Z)
  rw [← hw1] at hmk
  clear hV hnn hM hk hw1 hZ
  go_enter Try.func6, Try.ntmps6
  go_wp2
  go_loopw [6] (fun i wx => ∃ m : Nat, i = .int .i64 m ∧ m ≤ n ∧ (∃ R, ShB w.heap.size w.heap.size wx R ∧ R.length = 3 ∧ R.map (·.L) = ((List.range m).map (ixf bk n)).foldl (shN O kf) [noLb, noLb, noLb]) ∧ Kp (fun b => w.heap.size ≤ b) w wx) (fun i _ => n - (intOf i).toNat)
  case atStart => exact ⟨0, rfl, Nat.zero_le _, ⟨_, HS1.out, rfl, rfl⟩, HB1.out⟩
  case round =>
    obtain ⟨m, rfl, hmn, ⟨R, hS, hR3, hRL⟩, hKp⟩ := hrel
    obtain ⟨wo, hwo⟩ : ∃ y, y = wr := ⟨_, rfl⟩
    subst hwo
    have HS := hidK hS
    have HKP := hidK hKp
    have HRL := hidK hRL
    clear hS hRL HS1 HB1 hmk
    by_cases hm : m < n
    · have mI : (m : Int) < (n : Int) := by omega
      have mw : IntKind.i64.wrap ((m : Int) + 1) = (m : Int) + 1 := by rw [IntKind.wrap_i64]; omega
      obtain ⟨i, hi⟩ : ∃ i, i = ixf bk n m := ⟨_, rfl⟩
      have hin : i < n := by rw [hi]; unfold ixf; split <;> omega
      obtain ⟨o, hoj⟩ : ∃ o, O[i]? = some o := ⟨_, List.getElem?_eq_getElem (by have := HN.out; omega)⟩
      obtain ⟨⟨kk, xf, xg⟩, hx⟩ : ∃ y, ovs[i]? = some y := ⟨_, List.getElem?_eq_getElem (by have := HN.out; have := HL.out; omega)⟩
      have hobs := HOB.out wo hKp
      obtain ⟨b1, o1, p1, e1, d0, d1, d2⟩ := hobs.row.row.ov hx
      simp only at d0 d1 d2
      obtain ⟨h1, h2⟩ := hobs.ea i _ o hx hoj
      simp only at h1 h2
      injection e1 with e1 e1b e1c
      subst e1
      obtain ⟨hk1, hk2, hkf⟩ := HK.out i _ hx
      simp only at hk1 hk2 hkf
      obtain ⟨q, hq⟩ : ∃ q : Nat, kf i = (q : Int) := ⟨(kf i).toNat, by rw [hkf]; split <;> omega⟩
      have hq3 : q < 3 := by rw [hkf] at hq; split at hq <;> omega
      obtain ⟨af, cf, ef, _, _⟩ := h1.row.form
      obtain ⟨lf, hlf⟩ : ∃ l, l = o.df.length := ⟨_, rfl⟩
      rw [← hlf] at ef
      subst ef
      obtain ⟨ag, cg, eg, _, _⟩ := h2.row.form
      obtain ⟨lg, hlg⟩ : ∃ l, l = o.nd.length := ⟨_, rfl⟩
      rw [← hlg] at eg
      subst eg
      have hRF := hidK h1
      have hRG := hidK h2
      have HQ := hidK hq
      have HII := hidK hi
      have HOJ := hidK hoj
      have HLF := hidK hlf
      have HRW : Hid (∀ W, Kp (fun b => w.heap.size ≤ b) w W → RowN (fun b => w.heap.size ≤ b) txL W (.slice af lf cf) o.df ∧ RowN (fun b => w.heap.size ≤ b) txL W (.slice ag lg cg) o.nd) := fun W hk => (HOB.out W hk).ea i _ o hx hoj
      clear hobs hx e1b e1c h1 h2 hlf hlg hKp
      have i0 : (0 : Int) ≤ (i : Int) := by omega
      have iI : (i : Int) < (n : Int) := by omega
      have HKF := hidK hkf
      have hiT : bk = true → IntKind.i64.wrap ((n : Int) - 1 - (m : Int)) = (i : Int) := fun e => by
        subst e
        have : i = n - 1 - m := hi
        rw [IntKind.wrap_i64]; omega
      have hiF : bk = false → i = m := fun e => by subst e; exact hi
      have hqT : bk = true → IntKind.i64.wrap (2 - kk) = (q : Int) := fun e => by
        subst e
        have : kf i = 2 - kk := hkf
        rw [IntKind.wrap_i64]; omega
      have hqF : bk = false → kk = (q : Int) := fun e => by
        subst e
        have : kf i = kk := hkf
        omega
      have HIT := hidK hiT
      have HIF := hidK hiF
      have HQT := hidK hqT
      have HQF := hidK hqF
      have n1 : IntKind.i64.wrap ((n : Int) - 1) = (n : Int) - 1 := by rw [IntKind.wrap_i64]; omega
      clear hiT hiF hqT hqF hkf hi hq
      go_upto_if 19 with fail
      go_cut [7] from 20 to 24 (fun s7 wx => s7 = .int .i64 (i : Int) ∧ wx = wo)
      case first =>
        cases bk with
        | false =>
          have HX := hidK (HIF.out rfl)
          go_wp2
          go_meet
          case rel => exact ⟨by rw [HX.out], rfl⟩
        | true =>
          have n2 := HIT.out rfl
          go_wp2
          go_meet
          case rel => exact ⟨rfl, rfl⟩
      case rest =>
        obtain ⟨rfl, hwc⟩ := hcut
        subst hwc
        obtain ⟨wB, hwB⟩ : ∃ y, y = wc := ⟨_, rfl⟩
        subst hwB
        obtain ⟨P, hP⟩ : ∃ P, P = Obj.cells #[.int .i64 kk, .slice af lf cf, .slice ag lg cg] 38 := ⟨_, rfl⟩
        obtain ⟨w2, hw2⟩ : ∃ y, y = wB.alloc P := ⟨_, rfl⟩
        have hz : w2.heap[wB.heap.size]? = some (.cells #[.int .i64 kk, .slice af lf cf, .slice ag lg cg] 38 (0, 0)) := by rw [hw2, heap_alloc_new, hP]
        obtain ⟨z0, z1, z2⟩ := lk_cells hz
        have HZ := hidK hz
        have HB2 : Hid (Below wB.heap.size wB w2) := by rw [hw2]; exact (Below.refl _ _).alloc (Nat.le_refl _) P
        clear hz
        subst hP
        go_upto_region 9 with fail
        rw [← hw2]
        clear hw2 d0 d1 d2
        go_upto_if 31 with fail
        go_cut [9] from 32 to 33 (fun s9 wx => s9 = .int .i64 (q : Int) ∧ wx = w2)
        case first =>
          cases bk with
          | false =>
            have HX := hidK (HQF.out rfl)
            go_wp2
            go_meet
            case rel => exact ⟨by rw [HX.out], rfl⟩
          | true =>
            have n2 := HQT.out rfl
            go_wp2
            go_meet
            case rel => exact ⟨rfl, rfl⟩
        case rest =>
          obtain ⟨rfl, hwd⟩ := hcut
          subst hwd
          obtain ⟨w3, hw3⟩ : ∃ y, y = wc := ⟨_, rfl⟩
          subst hw3
          obtain ⟨r, hr⟩ : ∃ r, R[q]? = some r := ⟨_, List.getElem?_eq_getElem (by omega)⟩
          have q0 : (0 : Int) ≤ (q : Int) := by omega
          have q3 : (q : Int) < 3 := by omega
          have i2 : IntKind.i64.wrap (2 * (i : Int)) = 2 * (i : Int) := by rw [IntKind.wrap_i64]; omega
          have i8 : IntKind.i64.wrap (8 + 2 * (i : Int)) = 8 + 2 * (i : Int) := by rw [IntKind.wrap_i64]; omega
          have hf0 : Fil w.heap.size w.heap.size w3 R q r := ⟨by rw [set_same hr]; exact HS.out.on HB2.out, Nat.le_trans HKP.out.size HB2.out.size, hR3, hq3⟩
          have HF0 := hidK hf0
          have HBD := hidK (bnd_at HM.out HRL.out hr)
          have HEND : Hid (∀ r' : Sh, r'.L = addO o i r.L → (R.set q r').map (·.L) = ((List.range (m + 1)).map (ixf bk n)).foldl (shN O kf) [noLb, noLb, noLb]) := fun r' e => round_end HRL.out hr (by rw [← HII.out]; exact HOJ.out) (by rw [← HII.out]; exact HQ.out) (by rw [← HII.out]; exact e)
          have HLM : Hid (m ≤ 1000) := by show _ ≤ _; omega
          have HKW3 : Hid (Kp (fun b => w.heap.size ≤ b) w w3) := HKP.out.trans (Kp.of_below HB2.out)
          have y1 : w3.cell? ⟨w.heap.size, q * 5 + 1, none⟩ = some r.v.a := hf0.cell (c := 1) (by decide)
          have HOA := hidK hf0.lv.a
          have HB3 := hidK hf0.B
          clear hf0 hr
          go_upto_region 13 with (first
            | (at_builtin; refine wpG_one elI rfl (.tmp 40) (.tmp 44) rfl _ r.L.a (8 + 2 * (i : Int)) #[.int .i64 (8 + 2 * (i : Int))] rfl rfl rfl HOA.out (nmL_one _) (by have := HBD.out.a; have := HLM.out; omega) (fun b hb => Nat.le_trans HB3.out hb) ?_; intro v4 w4 o4 k4 l4; obtain ⟨a4, p4, e4, _⟩ := o4.form; obtain ⟨m4, hm4⟩ : ∃ m, m = (r.L.a ++ [8 + 2 * (i : Int)]).length := ⟨_, rfl⟩; rw [← hm4] at e4; clear hm4; subst e4; have HO4 := hidK o4; have HK4 := hidK k4; have HL4 := hidK l4; clear o4 k4 l4)
            | (have hk4' := HK4; refine wpList_store_kz rfl rfl 41 (.tmp 47) (.tmp 45) rfl w.heap.size (q * 5 + 1) (.slice a4 m4 p4) rfl rfl 45 _ _ (HF0.out.old (c := 1) (by decide) HK4.out) sizeSlI (fitR hR3 hq3 (by decide) r) rfl (putR hR3 hq3 (by decide) r _ ⟨r.L.e, r.L.a ++ [8 + 2 * (i : Int)], r.L.n, r.L.df, r.L.nd⟩ r.fs r.gs) ?_; intro W5 g5 k5; have HG5 := hidK g5; have HK5 := hidK k5; clear g5 k5 hk4'))
          obtain ⟨hf1, hkp1⟩ := HF0.out.put (c := 1) (by decide) HK4.out HL4.out (HF0.out.sh.putA HF0.out.at HK4.out HO4.out) HG5.out HK5.out
          have hz1 := HF0.out.box (c := 1) (by decide) HZ.out HK4.out HK5.out
          obtain ⟨r1, hr1⟩ : ∃ x : Sh, x = ⟨r.v.put 1 (.slice a4 m4 p4), ⟨r.L.e, r.L.a ++ [8 + 2 * (i : Int)], r.L.n, r.L.df, r.L.nd⟩, r.fs, r.gs⟩ := ⟨_, rfl⟩
          rw [← hr1] at hf1
          have HR1 : Hid (r1.L = ⟨r.L.e, r.L.a ++ [8 + 2 * (i : Int)], r.L.n, r.L.df, r.L.nd⟩) := by rw [hr1]; exact rfl
          obtain ⟨W1, hW1⟩ : ∃ y, y = W5 := ⟨_, rfl⟩
          subst hW1
          have HZ1 := hidK hz1
          have HF1 := hidK hf1
          have HKP1 : Hid (Kp (fun b => w.heap.size ≤ b) w W1) := HKW3.out.trans hkp1
          have y2 : W1.cell? ⟨w.heap.size, q * 5 + 2, none⟩ = some r1.v.n := hf1.cell (c := 2) (by decide)
          have HON := hidK hf1.lv.n
          have HLN : Hid (r1.L.n.length ≤ 1000) := by show _ ≤ _; rw [HR1.out]; exact Nat.le_trans HBD.out.n HLM.out
          have HB4 := hidK hf1.B
          clear hf1 hkp1 hz1 HO4 HK4 HL4 HG5 HK5 y1 z0 z1 z2 hr1 HZ HOA
          go_upto_region 14 with (first
            | (at_builtin; refine wpG_one elT rfl (.tmp 54) (.tmp 55) rfl _ r1.L.n (⟨#[109]⟩ : ByteArray) #[.string ⟨#[109]⟩] rfl rfl rfl HON.out (txL_one _) (by have := HLN.out; omega) (fun b hb => Nat.le_trans HB4.out hb) ?_; intro v4 w4 o4 k4 l4; obtain ⟨a4, p4, e4, _⟩ := o4.form; obtain ⟨m4, hm4⟩ : ∃ m, m = (r1.L.n ++ [(⟨#[109]⟩ : ByteArray)]).length := ⟨_, rfl⟩; rw [← hm4] at e4; clear hm4; subst e4; have HO4 := hidK o4; have HK4 := hidK k4; have HL4 := hidK l4; clear o4 k4 l4)
            | (have hk4' := HK4; refine wpList_store_kz rfl rfl 23 (.tmp 58) (.tmp 56) rfl w.heap.size (q * 5 + 2) (.slice a4 m4 p4) rfl rfl 45 _ _ (HF1.out.old (c := 2) (by decide) HK4.out) sizeSlT (fitR hR3 hq3 (by decide) r1) rfl (putR hR3 hq3 (by decide) r1 _ ⟨r1.L.e, r1.L.a, r1.L.n ++ [(⟨#[109]⟩ : ByteArray)], r1.L.df, r1.L.nd⟩ r1.fs r1.gs) ?_; intro W5 g5 k5; have HG5 := hidK g5; have HK5 := hidK k5; clear g5 k5 hk4'))
          obtain ⟨hf2, hkp2⟩ := HF1.out.put (c := 2) (by decide) HK4.out HL4.out (HF1.out.sh.putN HF1.out.at HK4.out HO4.out) HG5.out HK5.out
          have hz2 := HF1.out.box (c := 2) (by decide) HZ1.out HK4.out HK5.out
          obtain ⟨r2, hr2⟩ : ∃ x : Sh, x = ⟨r1.v.put 2 (.slice a4 m4 p4), ⟨r1.L.e, r1.L.a, r1.L.n ++ [(⟨#[109]⟩ : ByteArray)], r1.L.df, r1.L.nd⟩, r1.fs, r1.gs⟩ := ⟨_, rfl⟩
          rw [← hr2] at hf2
          have HR2 : Hid (r2.L = ⟨r.L.e, r.L.a ++ [8 + 2 * (i : Int)], r.L.n ++ [(⟨#[109]⟩ : ByteArray)], r.L.df, r.L.nd⟩) := by rw [hr2]; show (⟨r1.L.e, r1.L.a, r1.L.n ++ [(⟨#[109]⟩ : ByteArray)], r1.L.df, r1.L.nd⟩ : Lb) = _; rw [HR1.out]
          obtain ⟨W2, hW2⟩ : ∃ y, y = W5 := ⟨_, rfl⟩
          subst hW2
          have HZ2 := hidK hz2
          have HF2 := hidK hf2
          have HKP2 : Hid (Kp (fun b => w.heap.size ≤ b) w W2) := HKP1.out.trans hkp2
          clear hf2 hkp2 hz2 HO4 HK4 HL4 HG5 HK5 y2 hr2 HZ1 HF1 HKP1 HON HB4
          go_cut [59] from 60 to 71 (fun _ wx => ∃ rr : Sh, rr.L = ⟨r.L.e, r.L.a ++ [8 + 2 * (i : Int)], r.L.n ++ [(⟨#[109]⟩ : ByteArray)], r.L.df ++ [o.df], r.L.nd⟩ ∧ Fil w.heap.size w.heap.size wx R q rr ∧ Kp (fun b => w.heap.size ≤ b) w wx ∧ wx.heap[wB.heap.size]? = some (.cells #[.int .i64 kk, .slice af lf cf, .slice ag lg cg] 38 (0, 0)))
          case first =>
            have y3 : W2.cell? ⟨w.heap.size, q * 5 + 3, none⟩ = some r2.v.f := HF2.out.cell (c := 3) (by decide)
            obtain ⟨z0, z1, z2⟩ := lk_cells HZ2.out
            have hOO := HF2.out.lv.f
            obtain ⟨aO, cO, eO, _⟩ := hOO.form
            obtain ⟨lO, hlO⟩ : ∃ l, l = r2.fs.length := ⟨_, rfl⟩
            rw [← hlO] at eO
            have HEO := hidK eO
            rw [eO] at y3 hOO
            have HLO : Hid (r2.fs.length ≤ 1000) := by
              show _ ≤ _
              rw [HF2.out.lv.lf, HR2.out]
              have := HBD.out.f
              have := HLM.out
              show r.L.df.length ≤ 1000
              omega
            obtain ⟨X, hX⟩ : ∃ X, X = Obj.cells #[.slice af lf cf] 23 := ⟨_, rfl⟩
            have hbC : Below W2.heap.size W2 (W2.alloc X) := (Below.refl _ _).alloc (Nat.le_refl _) X
            have HO2 : Hid (OwnF (fun b => w.heap.size ≤ b) vaL 1 23 (W2.alloc X) (.slice aO lO cO) r2.fs) := hOO.on hbC
            have HR2x : Hid (RowG vaL (W2.alloc X) (.slice (some ⟨W2.heap.size, 0, none⟩) 1 1) [.slice af lf cf]) := by
              have := rowG_new elL W2 (.slice af lf cf : Value) #[.slice af lf cf] rfl
              rw [← hX] at this
              exact this
            have HG2 : Hid (∀ w5, Kp (fun b => (Value.slice aO lO cO).ownBlock = some b) (W2.alloc X) w5 → w5.heap[w.heap.size]? = some (.cells (flSh (R.set q r2)) 45 (0, 0))) := fun w5 k5 => HF2.out.old (c := 3) (by decide) (kp_thr HEO.out hbC k5)
            have HF2x : Hid (∀ b, (W2.alloc X).heap.size ≤ b → w.heap.size ≤ b) := fun b hb => Nat.le_trans (HF2.out.on hbC).B hb
            have HD2 : Hid (∀ w5, Kp (fun b => (Value.slice aO lO cO).ownBlock = some b) (W2.alloc X) w5 → w5.cell? ⟨w.heap.size, q * 5 + 3, none⟩ = some (.slice aO lO cO)) := fun w5 k5 => by
              have h0 := HF2.out.oldc (c := 3) (d := 3) (by decide) (by decide) (kp_thr HEO.out hbC k5)
              exact h0.trans (congrArg some HEO.out)
            have HBC := hidK hbC
            have HCG := hidK (HF2.out.on hbC)
            have c3 := cell_onG y3 hbC
            clear hOO eO hlO hbC z0
            subst hX
            go_region_law (refine stepG_all (F := fun b => w.heap.size ≤ b) elL rfl (.tmp 65) (.tmp 68) rfl (.slice aO lO cO) r2.fs (.slice af lf cf) W2.heap.size 1 (by simp [Act.eval]) (by simp [Act.eval]) (by exact HO2.out) (by exact HR2x.out) (by intro u hu; simp [vaL] at hu; subst hu; rfl) (by have := HLO.out; omega) (by exact HF2x.out) ?_; intro v5 w5 o5 k5 l5; obtain ⟨a5, p5, e5, _⟩ := o5.form; obtain ⟨m5, hm5⟩ : ∃ m, m = (r2.fs ++ [(.slice af lf cf : Value)]).length := ⟨_, rfl⟩; rw [← hm5] at e5; clear hm5; subst e5; have hb2 := HG2.out _ (Kp.undrew k5); have d2 := HD2.out _ (Kp.undrew k5); have f2 := Lib.frozen_of_heap hb2 (q * 5 + 3))
            all_goals
              have HK5 : Hid (∀ Wn, Wn = w5.setCell ⟨w.heap.size, q * 5 + 3, none⟩ (.slice a5 m5 p5) → ∃ rr : Sh, rr.L = ⟨r.L.e, r.L.a ++ [8 + 2 * (i : Int)], r.L.n ++ [(⟨#[109]⟩ : ByteArray)], r.L.df ++ [o.df], r.L.nd⟩ ∧ Fil w.heap.size w.heap.size Wn R q rr ∧ Kp (fun b => w.heap.size ≤ b) w Wn ∧ Wn.heap[wB.heap.size]? = some (.cells #[.int .i64 kk, .slice af lf cf, .slice ag lg cg] 38 (0, 0))) := by
                rintro Wn rfl
                have k4 := kp_thr HEO.out HBC.out (Kp.undrew k5)
                have hL := HF2.out.sh.putF HF2.out.at k4 o5 (HRW.out w5 (HKP2.out.trans (HF2.out.kpB (c := 3) (by decide) k4))).1
                obtain ⟨s1, s2, s3⟩ := HF2.out.step (c := 3) (by decide) k4 (fun b hb => by
                  rcases l5 b hb with h | h
                  · exact .inl (by rw [← HEO.out] at h; exact h)
                  · exact .inr (Nat.le_trans HBC.out.size h)) hL
                refine ⟨_, ?_, s1, HKP2.out.trans s2, s3 _ _ HZ2.out⟩
                show (⟨r2.L.e, r2.L.a, r2.L.n, r2.L.df ++ [o.df], r2.L.nd⟩ : Lb) = _
                rw [HR2.out]
              obtain ⟨rr, x5, y5, z5, n5⟩ := HK5.out _ rfl
              generalize w5.setCell ⟨w.heap.size, q * 5 + 3, none⟩ (.slice a5 m5 p5) = Wn at y5 z5 n5 ⊢
              have HX5 := hidK x5
              have HY5 := hidK y5
              have HZ5 := hidK z5
              have HN5 := hidK n5
              clear x5 y5 z5 n5 HK5 o5 k5 l5 hb2 d2 f2 c3 y3 z1 z2
              go_wp2
              go_meet
              case rel => exact ⟨rr, HX5.out, HY5.out, HZ5.out, HN5.out⟩
          case rest =>
            obtain ⟨r3, hrr3, hfr3, hkr3, hzr3⟩ := hcut
            have HRr3 := hidK hrr3
            have HFr3 := hidK hfr3
            have HKPr3 := hidK hkr3
            have HZr3 := hidK hzr3
            obtain ⟨Wr3, hWr3⟩ : ∃ y, y = wc := ⟨_, rfl⟩
            subst hWr3
            clear hrr3 hfr3 hkr3 hzr3 HF2 HZ2 HKP2 HR2
            go_upto_region 15 with fail
            go_cut [72] from 73 to 84 (fun _ wx => ∃ rr : Sh, rr.L = ⟨r.L.e, r.L.a ++ [8 + 2 * (i : Int)], r.L.n ++ [(⟨#[109]⟩ : ByteArray)], r.L.df ++ [o.df], r.L.nd ++ [o.nd]⟩ ∧ Fil w.heap.size w.heap.size wx R q rr ∧ Kp (fun b => w.heap.size ≤ b) w wx ∧ wx.heap[wB.heap.size]? = some (.cells #[.int .i64 kk, .slice af lf cf, .slice ag lg cg] 38 (0, 0)))
            case first =>
              have y3 : Wr3.cell? ⟨w.heap.size, q * 5 + 4, none⟩ = some r3.v.g := HFr3.out.cell (c := 4) (by decide)
              obtain ⟨z0, z1, z2⟩ := lk_cells HZr3.out
              have hOO := HFr3.out.lv.g
              obtain ⟨aO, cO, eO, _⟩ := hOO.form
              obtain ⟨lO, hlO⟩ : ∃ l, l = r3.gs.length := ⟨_, rfl⟩
              rw [← hlO] at eO
              have HEO := hidK eO
              rw [eO] at y3 hOO
              have HLO : Hid (r3.gs.length ≤ 1000) := by
                show _ ≤ _
                rw [HFr3.out.lv.lg, HRr3.out]
                have := HBD.out.g
                have := HLM.out
                show (r.L.nd).length ≤ 1000
                omega
              obtain ⟨X, hX⟩ : ∃ X, X = Obj.cells #[.slice ag lg cg] 23 := ⟨_, rfl⟩
              have hbC : Below Wr3.heap.size Wr3 (Wr3.alloc X) := (Below.refl _ _).alloc (Nat.le_refl _) X
              have HO2 : Hid (OwnF (fun b => w.heap.size ≤ b) vaL 1 23 (Wr3.alloc X) (.slice aO lO cO) r3.gs) := hOO.on hbC
              have HR2x : Hid (RowG vaL (Wr3.alloc X) (.slice (some ⟨Wr3.heap.size, 0, none⟩) 1 1) [.slice ag lg cg]) := by
                have := rowG_new elL Wr3 (.slice ag lg cg : Value) #[.slice ag lg cg] rfl
                rw [← hX] at this
                exact this
              have HG2 : Hid (∀ w5, Kp (fun b => (Value.slice aO lO cO).ownBlock = some b) (Wr3.alloc X) w5 → w5.heap[w.heap.size]? = some (.cells (flSh (R.set q r3)) 45 (0, 0))) := fun w5 k5 => HFr3.out.old (c := 4) (by decide) (kp_thr HEO.out hbC k5)
              have HF2x : Hid (∀ b, (Wr3.alloc X).heap.size ≤ b → w.heap.size ≤ b) := fun b hb => Nat.le_trans (HFr3.out.on hbC).B hb
              have HD2 : Hid (∀ w5, Kp (fun b => (Value.slice aO lO cO).ownBlock = some b) (Wr3.alloc X) w5 → w5.cell? ⟨w.heap.size, q * 5 + 4, none⟩ = some (.slice aO lO cO)) := fun w5 k5 => by
                have h0 := HFr3.out.oldc (c := 4) (d := 4) (by decide) (by decide) (kp_thr HEO.out hbC k5)
                exact h0.trans (congrArg some HEO.out)
              have HBC := hidK hbC
              have HCG := hidK (HFr3.out.on hbC)
              have c3 := cell_onG y3 hbC
              clear hOO eO hlO hbC z0
              subst hX
              go_region_law (refine stepG_all (F := fun b => w.heap.size ≤ b) elL rfl (.tmp 78) (.tmp 81) rfl (.slice aO lO cO) r3.gs (.slice ag lg cg) Wr3.heap.size 1 (by simp [Act.eval]) (by simp [Act.eval]) (by exact HO2.out) (by exact HR2x.out) (by intro u hu; simp [vaL] at hu; subst hu; rfl) (by have := HLO.out; omega) (by exact HF2x.out) ?_; intro v5 w5 o5 k5 l5; obtain ⟨a5, p5, e5, _⟩ := o5.form; obtain ⟨m5, hm5⟩ : ∃ m, m = (r3.gs ++ [(.slice ag lg cg : Value)]).length := ⟨_, rfl⟩; rw [← hm5] at e5; clear hm5; subst e5; have hb2 := HG2.out _ (Kp.undrew k5); have d2 := HD2.out _ (Kp.undrew k5); have f2 := Lib.frozen_of_heap hb2 (q * 5 + 4))
              all_goals
                have HK5 : Hid (∀ Wn, Wn = w5.setCell ⟨w.heap.size, q * 5 + 4, none⟩ (.slice a5 m5 p5) → ∃ rr : Sh, rr.L = ⟨r.L.e, r.L.a ++ [8 + 2 * (i : Int)], r.L.n ++ [(⟨#[109]⟩ : ByteArray)], r.L.df ++ [o.df], r.L.nd ++ [o.nd]⟩ ∧ Fil w.heap.size w.heap.size Wn R q rr ∧ Kp (fun b => w.heap.size ≤ b) w Wn ∧ Wn.heap[wB.heap.size]? = some (.cells #[.int .i64 kk, .slice af lf cf, .slice ag lg cg] 38 (0, 0))) := by
                  rintro Wn rfl
                  have k4 := kp_thr HEO.out HBC.out (Kp.undrew k5)
                  have hL := HFr3.out.sh.putG HFr3.out.at k4 o5 (HRW.out w5 (HKPr3.out.trans (HFr3.out.kpB (c := 4) (by decide) k4))).2
                  obtain ⟨s1, s2, s3⟩ := HFr3.out.step (c := 4) (by decide) k4 (fun b hb => by
                    rcases l5 b hb with h | h
                    · exact .inl (by rw [← HEO.out] at h; exact h)
                    · exact .inr (Nat.le_trans HBC.out.size h)) hL
                  refine ⟨_, ?_, s1, HKPr3.out.trans s2, s3 _ _ HZr3.out⟩
                  show (⟨r3.L.e, r3.L.a, r3.L.n, r3.L.df, r3.L.nd ++ [o.nd]⟩ : Lb) = _
                  rw [HRr3.out]
                obtain ⟨rr, x5, y5, z5, n5⟩ := HK5.out _ rfl
                generalize w5.setCell ⟨w.heap.size, q * 5 + 4, none⟩ (.slice a5 m5 p5) = Wn at y5 z5 n5 ⊢
                have HX5 := hidK x5
                have HY5 := hidK y5
                have HZ5 := hidK z5
                have HN5 := hidK n5
                clear x5 y5 z5 n5 HK5 o5 k5 l5 hb2 d2 f2 c3 y3 z1 z2
                go_wp2
                go_meet
                case rel => exact ⟨rr, HX5.out, HY5.out, HZ5.out, HN5.out⟩
            case rest =>
              obtain ⟨r4, hrr4, hfr4, hkr4, hzr4⟩ := hcut
              have HRr4 := hidK hrr4
              have HFr4 := hidK hfr4
              have HKPr4 := hidK hkr4
              have HZr4 := hidK hzr4
              obtain ⟨Wr4, hWr4⟩ : ∃ y, y = wc := ⟨_, rfl⟩
              subst hWr4
              clear hrr4 hfr4 hkr4 hzr4 HFr3 HZr3 HKPr3 HRr3
              obtain ⟨w4s, hw4s⟩ : ∃ y, y = Wr4 := ⟨_, rfl⟩
              subst hw4s
              have HL4a : Hid (r4.L = ⟨r.L.e ++ (o.df.take 0).map (fun n => (n, plI i)), r.L.a ++ [8 + 2 * (i : Int)], r.L.n ++ [(⟨#[109]⟩ : ByteArray)], r.L.df ++ [o.df], r.L.nd ++ [o.nd]⟩) := by rw [HRr4.out, List.take_zero, List.map_nil, List.append_nil]; exact rfl
              go_wp2
              have hlfm : lf ≤ 1048576 := by rw [HLF.out]; exact HM.out o (List.mem_of_getElem? HOJ.out)
              go_loopw [10] (fun j wx => ∃ (t : Nat) (rr : Sh), j = .int .i64 t ∧ t ≤ lf ∧ rr.L = ⟨r.L.e ++ (o.df.take t).map (fun n => (n, plI i)), r.L.a ++ [8 + 2 * (i : Int)], r.L.n ++ [(⟨#[109]⟩ : ByteArray)], r.L.df ++ [o.df], r.L.nd ++ [o.nd]⟩ ∧ Fil w.heap.size w.heap.size wx R q rr ∧ Kp (fun b => w.heap.size ≤ b) w wx ∧ wx.heap[wB.heap.size]? = some (.cells #[.int .i64 kk, .slice af lf cf, .slice ag lg cg] 38 (0, 0))) (fun j _ => lf - (intOf j).toNat)
              case atStart => exact ⟨0, r4, rfl, Nat.zero_le _, HL4a.out, HFr4.out, HKPr4.out, HZr4.out⟩
              case round =>
                obtain ⟨t, rr, rfl, htl, hrL, hf, hkp, hz⟩ := hrel
                obtain ⟨wo, hwo⟩ : ∃ y, y = wr := ⟨_, rfl⟩
                subst hwo
                have HRL6 := hidK hrL
                have HFt := hidK hf
                have HKt := hidK hkp
                have HZt := hidK hz
                obtain ⟨z0, z1, z2⟩ := lk_cells hz
                clear hrL HL4a HRr4 HFr4 HKPr4 HZr4
                by_cases ht : t < lf
                · have tI : (t : Int) < (lf : Int) := by omega
                  have t0 : (0 : Int) ≤ (t : Int) := by omega
                  have tw : IntKind.i64.wrap ((t : Int) + 1) = (t : Int) + 1 := by rw [IntKind.wrap_i64]; omega
                  obtain ⟨y, hy⟩ : ∃ y, o.df[t]? = some y := ⟨_, List.getElem?_eq_getElem (by have := HLF.out; omega)⟩
                  obtain ⟨b2, o2, p2, e2, f0⟩ := (HRW.out wo hkp).1.row.tx hy
                  injection e2 with e2 e2b e2c
                  subst e2
                  have HTK : Hid ((o.df.take (t + 1)).map (fun n => (n, plI i)) = (o.df.take t).map (fun n => (n, plI i)) ++ [(y, plI i)]) := by show _ = _; rw [takeSucc hy, List.map_append]; rfl
                  have y3 : wo.cell? ⟨w.heap.size, q * 5, none⟩ = some rr.v.e := hf.cell (c := 0) (by decide)
                  have hOO := hf.lv.e
                  obtain ⟨aO, cO, eO, _⟩ := hOO.form
                  obtain ⟨lO, hlO⟩ : ∃ l, l = rr.L.e.length := ⟨_, rfl⟩
                  rw [← hlO] at eO
                  have HEO := hidK eO
                  rw [eO] at y3 hOO
                  have HLO : Hid (rr.L.e.length ≤ 1049624576) := by
                    show _ ≤ _
                    rw [HRL6.out]
                    have h1 := HBD.out.e
                    have h2 := HLM.out
                    have h3 := HM.out o (List.mem_of_getElem? HOJ.out)
                    have h4 : 1048576 * m ≤ 1048576 * 1000 := Nat.mul_le_mul_left _ h2
                    show (r.L.e ++ (o.df.take t).map (fun n => (n, plI i))).length ≤ _
                    rw [List.length_append, List.length_map, List.length_take]
                    omega
                  obtain ⟨X, hX⟩ : ∃ X, X = Obj.cells #[.string y, .int .i64 (8 + 2 * (i : Int))] 47 := ⟨_, rfl⟩
                  have hbC : Below wo.heap.size wo (wo.alloc X) := (Below.refl _ _).alloc (Nat.le_refl _) X
                  have HO2 : Hid (OwnF (fun b => w.heap.size ≤ b) enL 2 47 (wo.alloc X) (.slice aO lO cO) rr.L.e) := hOO.on hbC
                  have HR2x : Hid (RowG enL (wo.alloc X) (.slice (some ⟨wo.heap.size, 0, none⟩) 1 1) [(y, 8 + 2 * (i : Int))]) := by
                    have := rowG_new elE wo ((y, 8 + 2 * (i : Int)) : ByteArray × Int) #[.string y, .int .i64 (8 + 2 * (i : Int))] rfl
                    rw [← hX] at this
                    exact this
                  have HG2 : Hid (∀ w5, Kp (fun b => (Value.slice aO lO cO).ownBlock = some b) (wo.alloc X) w5 → w5.heap[w.heap.size]? = some (.cells (flSh (R.set q rr)) 45 (0, 0))) := fun w5 k5 => HFt.out.old (c := 0) (by decide) (kp_thr HEO.out hbC k5)
                  have HF2x : Hid (∀ b, (wo.alloc X).heap.size ≤ b → w.heap.size ≤ b) := fun b hb => Nat.le_trans (HFt.out.on hbC).B hb
                  have HD2 : Hid (∀ w5, Kp (fun b => (Value.slice aO lO cO).ownBlock = some b) (wo.alloc X) w5 → w5.cell? ⟨w.heap.size, q * 5, none⟩ = some (.slice aO lO cO)) := fun w5 k5 => by
                    have h0 := HFt.out.oldc (c := 0) (d := 0) (by decide) (by decide) (kp_thr HEO.out hbC k5)
                    exact h0.trans (congrArg some HEO.out)
                  have HBC := hidK hbC
                  have c3 := cell_onG y3 hbC
                  clear hOO eO hlO hbC z0 hy e2b e2c hf hkp hz
                  subst hX
                  go_upto_region 19 with fail
                  go_region_law (refine stepG_all (F := fun b => w.heap.size ≤ b) elE rfl (.tmp 98) (.tmp 108) rfl (.slice aO lO cO) rr.L.e ((y, 8 + 2 * (i : Int)) : ByteArray × Int) wo.heap.size 1 (by simp [Act.eval]) (by simp [Act.eval]) (by exact HO2.out) (by exact HR2x.out) (enL_one _) (by have := HLO.out; omega) (by exact HF2x.out) ?_; intro v5 w5 o5 k5 l5; obtain ⟨a5, p5, e5, _⟩ := o5.form; obtain ⟨m5, hm5⟩ : ∃ m, m = (rr.L.e ++ [((y, 8 + 2 * (i : Int)) : ByteArray × Int)]).length := ⟨_, rfl⟩; rw [← hm5] at e5; clear hm5; subst e5; have hb2 := HG2.out _ (Kp.undrew k5); have d2 := HD2.out _ (Kp.undrew k5); have f2 := Lib.frozen_of_heap hb2 (q * 5))
                  all_goals
                    have HK5 : Hid (∀ Wn, Wn = w5.setCell ⟨w.heap.size, q * 5, none⟩ (.slice a5 m5 p5) → ∃ rr : Sh, rr.L = ⟨r.L.e ++ (o.df.take (t + 1)).map (fun n => (n, plI i)), r.L.a ++ [8 + 2 * (i : Int)], r.L.n ++ [(⟨#[109]⟩ : ByteArray)], r.L.df ++ [o.df], r.L.nd ++ [o.nd]⟩ ∧ Fil w.heap.size w.heap.size Wn R q rr ∧ Kp (fun b => w.heap.size ≤ b) w Wn ∧ Wn.heap[wB.heap.size]? = some (.cells #[.int .i64 kk, .slice (some ⟨b2, o2, none⟩) lf cf, .slice ag lg cg] 38 (0, 0))) := by
                      rintro Wn rfl
                      have k4 := kp_thr HEO.out HBC.out (Kp.undrew k5)
                      have hL := HFt.out.sh.putE HFt.out.at k4 o5
                      obtain ⟨s1, s2, s3⟩ := HFt.out.step (c := 0) (by decide) k4 (fun b hb => by
                        rcases l5 b hb with h | h
                        · exact .inl (by rw [← HEO.out] at h; exact h)
                        · exact .inr (Nat.le_trans HBC.out.size h)) hL
                      refine ⟨_, ?_, s1, HKt.out.trans s2, s3 _ _ HZt.out⟩
                      show (⟨rr.L.e ++ [((y, 8 + 2 * (i : Int)) : ByteArray × Int)], rr.L.a, rr.L.n, rr.L.df, rr.L.nd⟩ : Lb) = _
                      rw [HRL6.out, HTK.out, ← List.append_assoc]
                      exact rfl
                    obtain ⟨rs, x5, y5, z5, n5⟩ := HK5.out _ rfl
                    generalize w5.setCell ⟨w.heap.size, q * 5, none⟩ (.slice a5 m5 p5) = Wn at y5 z5 n5 ⊢
                    have HX5 := hidK x5
                    have HY5 := hidK y5
                    have HZ5 := hidK z5
                    have HN5 := hidK n5
                    clear x5 y5 z5 n5 HK5 o5 k5 l5 hb2 d2 f2 c3 y3 z1 z2 f0
                    go_wp2
                    go_roundw
                    case rel => exact ⟨t + 1, rs, by go_num, by omega, HX5.out, HY5.out, HZ5.out, HN5.out⟩
                    case measure => simp [intOf]; omega
                · obtain rfl : t = lf := by omega
                  have HT : Hid (o.df.take t = o.df) := by show _ = _; rw [HLF.out, List.take_length]
                  rw [HT.out] at HRL6
                  have HEN2 := hidK (HEND.out rr HRL6.out)
                  clear hf hkp hz z0 z2
                  go_wp2
                  go_roundw
                  case rel => exact ⟨m + 1, by go_num, by omega, ⟨_, HFt.out.sh, set3 HFt.out.l _ _, HEN2.out⟩, HKt.out⟩
                  case measure => simp [intOf]; omega
    · obtain rfl : m = n := by omega
      go_wp2
      go_ret
      exact ⟨_, R, rfl, HS.out, HRL.out, HKP.out.below (fun b hb => hb) (Nat.le_refl _)⟩
end Go.Proofs.Ytnnpdomfkedhpaa
