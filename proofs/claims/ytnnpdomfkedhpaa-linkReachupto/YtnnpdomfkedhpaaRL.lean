
-- reached.
import Derived.Test.YtnnpdomfkedhpaaRK
import Derived.Test.YtnnpdomfkedhpaaRB
namespace Go.Proofs.Ytnnpdomfkedhpaa
open Go.ChangeShapes Go.WideShapes Go.ChangeAt Go.RowKit Go.MapKept
set_option linter.unusedVariables false
set_option maxRecDepth 100000
theorem rstep_yes {O : List Ob} {st : Rst} {i : Nat} {o : Ob} (ho : O[i]? = some o) (h1 : st.1.getD i false = false) (h2 : meetsB o.df st.2 = true) : rstep O st i = (st.1.set i true, st.2 ++ o.nd) := by
  unfold rstep; rw [ho]; simp only [h1, h2]; rfl
theorem rstep_no {O : List Ob} {st : Rst} {i : Nat} {o : Ob} (ho : O[i]? = some o) (h : st.1.getD i false = true ∨ meetsB o.df st.2 = false) : rstep O st i = st := by
  unfold rstep; rw [ho]; simp only
  rcases h with h | h
  · rw [h]; rfl
  · rw [h, Bool.and_false]; rfl
theorem sizeBo : (Try.prog.info? 4).map (·.size) = some 1 := by kernel_rfl
theorem flag_cell {w : World} {g : Nat} {fl : List Bool} {j : Nat} (h : w.heap[g]? = some (.cells (fl.flatMap boL).toArray 4 (0, 0))) (hj : j < fl.length) : w.cell? ⟨g, j, none⟩ = some (.bool (fl.getD j false)) := by
  refine cell_rowK h j _ ?_
  have := flatG_get (c := boL) (z := 1) boL_len fl j 0 (fl.getD j false) (by rw [List.getD_eq_getElem?_getD, List.getElem?_eq_getElem hj]; rfl) (by decide)
  rw [Nat.mul_one, Nat.add_zero] at this
  rw [List.getElem?_toArray, this]; rfl
theorem flag_put (fl : List Bool) (j : Nat) (hj : j < fl.length) : putG (fl.flatMap boL).toArray j #[.bool true] = ((fl.set j true).flatMap boL).toArray := by
  have := putG_flat boL 1 boL_len fl j true hj
  rw [Nat.mul_one] at this
  exact this
set_option maxHeartbeats 16000000 in
theorem reached_c (v u : Value) (ovs : List Ov) (O : List Ob) (roots : List ByteArray) (w : World) (hV : ObsAt (fun b => w.heap.size ≤ b) w v ovs O) (hu : RowT w u roots) (hn : O.length ≤ 1000) (hR : roots.length ≤ 1048576) (hM : ∀ o ∈ O, o.df.length ≤ 1048576 ∧ o.nd.length ≤ 1048576) :
    Calls Try.prog 5 #[v, u] w fun e w' => ∃ a l c, e = .returned (.tuple #[.slice (some ⟨w.heap.size, 0, none⟩) O.length O.length, .slice a l c]) ∧ w'.heap[w.heap.size]? = some (.cells ((rall O roots).1.flatMap boL).toArray 4 (0, 0)) ∧ OwnF (fun b => w.heap.size + 1 ≤ b) txL 1 9 w' (.slice a l c) (rall O roots).2 ∧ Below w.heap.size w w' := by
  obtain ⟨a1, c1, q1, _, _⟩ := hV.row.row.form
  obtain ⟨n, hnn⟩ : ∃ n, n = O.length := ⟨_, rfl⟩
  have HN := hidK hnn
  have HL := hidK hV.len
  rw [hV.len, ← hnn] at q1
  subst q1
  obtain ⟨ar, cr, er, _, _⟩ := hu.form
  obtain ⟨lr, hlr⟩ : ∃ l, l = roots.length := ⟨_, rfl⟩
  rw [← hlr] at er
  have HLR := hidK hlr
  subst er
  have hMN : ∀ o ∈ O, o.nd.length ≤ 1048576 := fun o ho => (hM o ho).2
  have HUP : Hid (∀ W, Below w.heap.size w W → ObsAt (fun b => W.heap.size ≤ b) W (.slice a1 n c1) ovs O) := fun W hb => (hV.kp (Kp.of_below hb)).weak (fun b _ hh => Nat.le_trans hb.size hh)
  have HM := hidK hM
  have HMN := hidK hMN
  rw [← hnn] at hn ⊢
  obtain ⟨Z, hZ⟩ : ∃ Z, Z = Obj.cells ((List.replicate n false).flatMap boL).toArray 4 := ⟨_, rfl⟩
  have hmk := mk_bools n (by omega) w
  rw [← hZ] at hmk
  have HZ0 : Hid ((w.alloc Z).heap[w.heap.size]? = some (.cells ((List.replicate n false).flatMap boL).toArray 4 (0, 0))) := by show _ = _; rw [heap_alloc_new, hZ]
  have HBZ : Hid (Below w.heap.size w (w.alloc Z)) := (Below.refl _ w).alloc (Nat.le_refl _) Z
  have HSZ : Hid ((w.alloc Z).heap.size = w.heap.size + 1) := by show _ = _; simp
  have HRU := hidK (hu.on HBZ.out)
  obtain ⟨st0, hst0⟩ : ∃ s : Rst, s = (List.replicate n false, roots) := ⟨_, rfl⟩
  have HRK : Hid (∀ k j, Rok O 1048576 1048576 ((List.range j).foldl (rstep O) (riter O k st0))) := fun k j => by
    have h0 : Rok O 1048576 1048576 st0 := ⟨by rw [hst0, hnn]; simp, by rw [hst0]; show roots.length ≤ _; omega⟩
    have : ∀ k, Rok O 1048576 1048576 (riter O k st0) := by
      intro k
      induction k with
      | zero => exact h0
      | succ k ih => rw [riter_succ]; exact rok_fold O hMN _ _ ih
    exact rok_fold O hMN _ _ (this k)
  have HALL : Hid (rall O roots = riter O n st0) := by unfold rall; rw [hst0, hnn]; exact rfl
  have HS0 := hidK hst0
  have HSM0 : Hid ((([] : List ByteArray).length + roots.length) * (16 + 1) ≤ 140737488355328) := by show _ ≤ _; simp only [List.length_nil]; omega
  clear hV hnn hu hM hMN hZ hst0 hlr hR
  go_enter Try.func5, Try.ntmps5
  go_upto_region 3 with fail
  go_upto_region 4 with (refine wpG_all (F := fun b => w.heap.size + 1 ≤ b) elT rfl (.tmp 14) (.tmp 15) rfl (.slice none 0 0) (.slice ar lr cr) [] roots rfl rfl OwnF.nil HRU.out (fun m _ => txL_one m) HSM0.out (fun b hb => by have := HSZ.out; omega) ?_; intro v5 w5 o5 k5 l5; rw [List.nil_append] at o5; have HO5 := hidK o5; have HK5 := hidK k5; clear o5 k5 l5)
  have HB5 : Hid (Below (w.alloc Z).heap.size (w.alloc Z) w5) := HK5.out.below (fun k hk => by simp [Value.ownBlock] at hk) (Nat.le_refl _)
  have HI5 : Hid (w5.heap[w.heap.size]? = some (.cells (st0.1.flatMap boL).toArray 4 (0, 0)) ∧ Below w.heap.size w w5) := by
    rw [HS0.out]
    exact ⟨hkeepK HB5.out HZ0.out, bel3K HBZ.out HB5.out⟩
  have HO5' : Hid (OwnF (fun b => w.heap.size + 1 ≤ b) txL 1 9 w5 v5 st0.2) := by rw [HS0.out]; exact HO5.out
  clear HK5 HO5 HZ0 HB5 HRU hmk
  go_wp2
  go_loopw [7, 8] (fun o i wx => ∃ k : Nat, i = .int .i64 k ∧ k ≤ n ∧ OwnF (fun b => w.heap.size + 1 ≤ b) txL 1 9 wx o (riter O k st0).2 ∧ wx.heap[w.heap.size]? = some (.cells ((riter O k st0).1.flatMap boL).toArray 4 (0, 0)) ∧ Below w.heap.size w wx) (fun _ i _ => n - (intOf i).toNat)
  case atStart => exact ⟨0, rfl, Nat.zero_le _, HO5'.out, HI5.out.1, HI5.out.2⟩
  case round =>
    obtain ⟨r, rfl, hrn, ho, hg, hB⟩ := hrel
    have HOo := hidK ho
    have HGo := hidK hg
    have HBo := hidK hB
    clear ho hg hB HO5' HI5
    by_cases hr : r < n
    · have rI : (r : Int) < (n : Int) := by omega
      have rw' : IntKind.i64.wrap ((r : Int) + 1) = (r : Int) + 1 := by rw [IntKind.wrap_i64]; omega
      obtain ⟨st, hst⟩ : ∃ s, s = riter O r st0 := ⟨_, rfl⟩
      have HST0 := hidK hst
      rw [← hst] at HOo HGo
      have HRK2 : Hid (∀ j, Rok O 1048576 1048576 ((List.range j).foldl (rstep O) st)) := fun j => by rw [hst]; exact HRK.out r j
      clear hst
      go_wp2
      go_loopw [7, 9] (fun o i wx => ∃ j : Nat, i = .int .i64 j ∧ j ≤ n ∧ OwnF (fun b => w.heap.size + 1 ≤ b) txL 1 9 wx o ((List.range j).foldl (rstep O) st).2 ∧ wx.heap[w.heap.size]? = some (.cells ((((List.range j).foldl (rstep O) st).1).flatMap boL).toArray 4 (0, 0)) ∧ Below w.heap.size w wx) (fun _ i _ => n - (intOf i).toNat)
      case atStart => exact ⟨0, rfl, Nat.zero_le _, HOo.out, HGo.out, HBo.out⟩
      case round =>
        obtain ⟨j, rfl, hjn, ho, hg, hB⟩ := hrel
        clear HOo HGo HBo
        by_cases hj : j < n
        · have jI : (j : Int) < (n : Int) := by omega
          have j0 : (0 : Int) ≤ (j : Int) := by omega
          have jw : IntKind.i64.wrap ((j : Int) + 1) = (j : Int) + 1 := by rw [IntKind.wrap_i64]; omega
          obtain ⟨t, ht⟩ : ∃ s, s = (List.range j).foldl (rstep O) st := ⟨_, rfl⟩
          have HT : Hid ((List.range (j + 1)).foldl (rstep O) st = rstep O t j) := by rw [List.range_succ, List.foldl_append, ← ht]; exact rfl
          have hrk := HRK2.out j
          rw [← ht] at ho hg hrk
          obtain ⟨o, hoj⟩ : ∃ o, O[j]? = some o := ⟨_, List.getElem?_eq_getElem (by have := HN.out; omega)⟩
          obtain ⟨⟨xk, xf, xg⟩, hx⟩ : ∃ x, ovs[j]? = some x := ⟨_, List.getElem?_eq_getElem (by have := HN.out; have := HL.out; omega)⟩
          have hobs := HUP.out wr hB
          obtain ⟨b1, o1, p1, e1, d0, d1, d2⟩ := hobs.row.row.ov hx
          simp only at d0 d1 d2
          obtain ⟨h1, h2⟩ := hobs.ea j _ o hx hoj
          simp only at h1 h2
          injection e1 with e1 e1b e1c
          subst e1
          have hmo := HM.out o (List.mem_of_getElem? hoj)
          have hle := hrk.le
          have hn' := HN.out
          have hle2 : t.2.length ≤ 1049624576 := by
            have : 1048576 * O.length ≤ 1048576 * 1000 := Nat.mul_le_mul_left _ (by omega)
            omega
          have HME := hidK (meets_c xf u7 o.df t.2 wr h1.row (OwnF.row elT ho) (by omega) (by omega))
          have hfc := flag_cell hg (show j < t.1.length by rw [hrk.l]; omega)
          have HFL : Hid (j < t.1.length) := by show _ < _; rw [hrk.l]; omega
          obtain ⟨ag, cg, eg, _, _⟩ := h2.row.form
          obtain ⟨lg, hlg⟩ : ∃ l, l = o.nd.length := ⟨_, rfl⟩
          rw [← hlg] at eg
          subst eg
          have HLG := hidK hlg
          have HND := hidK h2.row
          have HO := hidK ho
          have HG := hidK hg
          have HB := hidK hB
          have HOJ := hidK hoj
          have HX := hidK hx
          have HSM : Hid ((t.2.length + o.nd.length) * (16 + 1) ≤ 140737488355328) := by show _ ≤ _; have := hmo.2; omega
          have hlg2 : lg ≤ 1048576 := by rw [hlg]; exact hmo.2
          clear hx hobs e1b e1c h1 h2 hmo hle hn' hrk ho hg hB hoj ht hlg
          cases hfl : t.1.getD j false with
          | true =>
            rw [hfl] at hfc
            have HNO : Hid (rstep O t j = t) := rstep_no HOJ.out (.inl hfl)
            clear hfl
            go_wp2_with (go_at_call 10; refine HME.out.mono ?_; rintro e w6 ⟨rfl, hw6⟩; rw [hw6]; clear hw6)
            go_roundw
            case rel => exact ⟨j + 1, by go_num, by omega, by rw [HT.out, HNO.out]; exact HO.out, by rw [HT.out, HNO.out]; exact HG.out, HB.out⟩
            case measure => simp [intOf]; omega
          | false =>
            rw [hfl] at hfc
            cases hme : meetsB o.df t.2 with
            | false =>
              rw [hme] at HME
              have HNO : Hid (rstep O t j = t) := rstep_no HOJ.out (.inr hme)
              clear hfl hme
              go_wp2_with (go_at_call 10; refine HME.out.mono ?_; rintro e w6 ⟨rfl, hw6⟩; rw [hw6]; clear hw6)
              go_roundw
              case rel => exact ⟨j + 1, by go_num, by omega, by rw [HT.out, HNO.out]; exact HO.out, by rw [HT.out, HNO.out]; exact HG.out, HB.out⟩
              case measure => simp [intOf]; omega
            | true =>
              rw [hme] at HME
              have HYE : Hid (rstep O t j = (t.1.set j true, t.2 ++ o.nd)) := rstep_yes HOJ.out hfl hme
              have hfit : Nat.ble (j + 1) (t.1.flatMap boL).toArray.size = true := Nat.ble_eq_true_of_le (by have := HFL.out; rw [List.size_toArray, flatG_len boL 1 boL_len]; omega)
              clear hfl hme
              go_upto_region 13 with (first
                | (go_at_call 10; refine HME.out.mono ?_; rintro e w6 ⟨rfl, hw6⟩; rw [hw6]; clear hw6)
                | (refine wpList_store_row_G rfl rfl 4 _ _ rfl w.heap.size j (.bool true) (by first | rfl | simp [Act.eval]) (by rfl) 4 (t.1.flatMap boL).toArray ((t.1.set j true).flatMap boL).toArray HG.out sizeBo hfit rfl (flag_put t.1 j HFL.out) ?_; intro W4 h4 k4; have HW4 := hidK h4; have HK4 := hidK k4; clear h4 k4))
              have HB4 : Hid (Below w.heap.size w W4) := HB.out.trans ((Kp.grown (F := fun b => b = w.heap.size) HK4.out (fun q hq => by injection hq with hq; exact hq.symm)).below (fun b hb => by have hb' : b = w.heap.size := hb; omega) HB.out.size)
              have HO4 : Hid (OwnF (fun b => w.heap.size + 1 ≤ b) txL 1 9 W4 u7 t.2) := HO.out.keep (fun k hk => HK4.out.block k (HO.out.lt k hk) (fun e => by injection e with e; have := HO.out.2 k hk; omega))
              have HOB := hidK (HUP.out W4 HB4.out)
              obtain ⟨b2, o2, p2, e2, f0, f1, f2⟩ := HOB.out.row.row.ov HX.out
              simp only at f0 f1 f2
              injection e2 with e2 e2b e2c
              injection e2 with e2
              injection e2 with e2 e2o
              subst e2 e2o
              have HN4 := hidK (HOB.out.ea j _ o HX.out HOJ.out).2.row
              have HF4 : Hid (∀ b, W4.heap.size ≤ b → w.heap.size + 1 ≤ b) := fun b hb => by have := (Array.getElem?_eq_some_iff.1 HW4.out).1; omega
              clear f0 f1 e2b e2c HK4 HOB d0 d1 d2 hfc HME HG HND hfit
              go_upto_region 9 with (refine wpG_all (F := fun b => w.heap.size + 1 ≤ b) elT rfl (.tmp 47) (.tmp 52) rfl u7 (.slice ag lg cg) t.2 o.nd rfl rfl HO4.out HN4.out (fun m _ => txL_one m) HSM.out HF4.out ?_; intro v9 w9 o9 k9 l9; have HO9 := hidK o9; have HK9 := hidK k9; clear o9 k9 l9)
              have HG9 : Hid (w9.heap[w.heap.size]? = some (.cells ((t.1.set j true).flatMap boL).toArray 4 (0, 0))) := (HK9.out.block _ (Array.getElem?_eq_some_iff.1 HW4.out).1 (fun e => by have := HO4.out.2 _ e; omega)).trans HW4.out
              have HB9 : Hid (Below w.heap.size w w9) := HB4.out.trans (HK9.out.below (fun k hk => by have := HO4.out.2 _ hk; omega) HB4.out.size)
              clear HK9 HN4 f2
              go_wp2
              go_roundw
              case rel => exact ⟨j + 1, by go_num, by omega, by rw [HT.out, HYE.out]; exact HO9.out, by rw [HT.out, HYE.out]; exact HG9.out, HB9.out⟩
              case measure => simp [intOf]; omega
        · obtain rfl : j = n := by omega
          have HR1 : Hid ((List.range j).foldl (rstep O) st = riter O (r + 1) st0) := by show _ = _; rw [riter_succ, ← HST0.out, HN.out]; rfl
          rw [HR1.out] at ho hg
          have HO := hidK ho
          have HG := hidK hg
          have HB := hidK hB
          clear ho hg hB
          go_wp2
          go_roundw
          case rel => exact ⟨r + 1, by go_num, by omega, HO.out, HG.out, HB.out⟩
          case measure => simp [intOf]; omega
    · obtain rfl : r = n := by omega
      have HO := hidK HOo.out
      rw [← HALL.out] at HOo HGo
      obtain ⟨ax, cx, ex, _⟩ := HOo.out.form
      subst ex
      clear HO
      go_wp2
      go_ret2
      exact ⟨_, _, _, rfl, HGo.out, HOo.out, HBo.out⟩
end Go.Proofs.Ytnnpdomfkedhpaa
