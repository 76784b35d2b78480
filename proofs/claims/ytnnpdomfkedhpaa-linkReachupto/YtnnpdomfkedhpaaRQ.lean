
-- only.
import Derived.Test.YtnnpdomfkedhpaaRO
namespace Go.Proofs.Ytnnpdomfkedhpaa
open Go.ChangeShapes Go.WideShapes Go.ChangeAt Go.RowKit Go.MapKept
set_option linter.unusedVariables false
set_option maxRecDepth 100000
theorem elO : El ovL 3 38 22 56 := ⟨Try.underlying22, ⟨.agg #[.int .i64 0, .slice none 0 0, .slice none 0 0], by kernel_rfl, rfl⟩, ovL_len, by decide⟩
def k3 (k : Int) : Int := (k % 18446744073709551616) % 3
theorem k3_is (k : Int) : IntKind.i64.wrap ((IntKind.u64.wrap k).tmod 3) = k3 k := by
  have h : (IntKind.u64.wrap k).tmod 3 = k3 k := by
    rw [IntKind.wrap_u64]
    exact Int.tmod_eq_emod_of_nonneg (by omega)
  rw [h, IntKind.wrap_i64]
  unfold k3
  omega
theorem k3_le (k : Int) : 0 ≤ k3 k ∧ k3 k ≤ 2 := by unfold k3; omega
theorem RowG.rowNo {α : Type} {c : α → List Value} {F : Nat → Prop} {w : World} {v : Value} {L : List α} (h : RowG c w v L) (hF : ∀ b, v.ownBlock = some b → ¬ F b) : RowN F c w v L := by
  obtain ⟨ao, cap, e, h1, h2, h3, h4⟩ := h
  refine ⟨ao, cap, e, h1, h2, h3, fun hp => ?_⟩
  obtain ⟨b, off, e2, hcl⟩ := h4 hp
  exact ⟨b, off, e2, hF b (by rw [e, e2]; rfl), hcl⟩
/-- only's state -/
structure OnI (B : Nat) (W : World) (uo us : Value) (ous : List Ov) (st : On) : Prop where
  out : OwnF (fun b => B ≤ b) ovL 3 38 W uo ous
  sn : OwnF (fun b => B ≤ b) txL 1 9 W us st.2
  len : ous.length = st.1.length
  ea : ∀ (i : Nat) (x : Ov) (o : Ob), ous[i]? = some x → st.1[i]? = some o → RowN (fun b => uo.ownBlock = some b ∨ us.ownBlock = some b ∨ W.heap.size ≤ b) txL W x.f o.df ∧ RowN (fun b => B ≤ b) txL W x.g o.nd ∧ 0 ≤ x.k ∧ x.k ≤ 2
theorem OnI.step {B : Nat} {wo W0 wx w5 : World} {uo us uo' s' vd vg : Value} {ous : List Ov} {st : On} {S' D nd : List ByteArray} {kk : Int} (h : OnI B wo uo us ous st) (hb0 : Below wo.heap.size wo W0) (hBo : B ≤ wo.heap.size) (hk : Kp (fun b => us.ownBlock = some b ∨ wo.heap.size ≤ b) W0 wx)
    (hs : OwnF (fun b => us.ownBlock = some b ∨ wo.heap.size < b) txL 1 9 wx s' S') (hd : OwnF (fun b => wo.heap.size < b) txL 1 9 wx vd D) (hne : ∀ b, s'.ownBlock = some b → vd.ownBlock = some b → False)
    (hg : RowN (fun b => B ≤ b) txL wx vg nd) (hkk : 0 ≤ kk ∧ kk ≤ 2) (hou : OwnF (fun b => B ≤ b) ovL 3 38 wx uo ous) (ho' : OwnF (fun b => B ≤ b) ovL 3 38 w5 uo' (ous ++ [⟨kk, vd, vg⟩])) (hk5 : Kp (fun b => uo.ownBlock = some b) wx w5) (hn5 : ∀ b, uo'.ownBlock = some b → uo.ownBlock = some b ∨ wx.heap.size ≤ b) :
    OnI B w5 uo' s' (ous ++ [⟨kk, vd, vg⟩]) (st.1 ++ [⟨D, nd⟩], S') := by
  have z0 := hb0.size
  have z1 := hk.size
  have z2 := hk5.size
  have hus : ∀ b, us.ownBlock = some b → B ≤ b ∧ b < wo.heap.size := fun b hb => ⟨h.sn.2 b hb, h.sn.lt b hb⟩
  have hty : ∀ {v : Value} {L : List ByteArray} {G : Nat → Prop}, OwnF G txL 1 9 wx v L → ∀ b, v.ownBlock = some b → ¬ uo.ownBlock = some b := fun {v L G} hv b hb hu => by
    obtain ⟨c1, e1⟩ := hv.typed hb
    obtain ⟨c2, e2⟩ := hou.typed hu
    exact cells_typ e1 e2 (by decide) rfl
  have hs5 := hs.kp hk5 (hty hs)
  have hd5 := hd.kp hk5 (hty hd)
  have hn5' : ∀ b, b < wx.heap.size → uo'.ownBlock = some b → uo.ownBlock = some b := fun b hl hb => by
    rcases hn5 b hb with q | q
    · exact q
    · omega
  refine ⟨ho', hs5.weak (fun b hb => ?_), by rw [List.length_append, List.length_append, h.len]; rfl, ?_⟩
  · rcases hb with q | q
    · exact (hus b q).1
    · omega
  intro i x o hx ho
  simp only at ho
  by_cases hl : i < ous.length
  · rw [List.getElem?_append_left hl] at hx
    rw [List.getElem?_append_left (by rw [← h.len]; exact hl)] at ho
    obtain ⟨e1, e2, e3⟩ := h.ea i x o hx ho
    refine ⟨?_, ?_, e3⟩
    · have f1 := e1.kp (Kp.of_below hb0)
      have f2 := f1.kp (hk.weak fun b hb => by rcases hb with q | q; · exact .inr (.inl q)
                                               · exact .inr (.inr q))
      have f3 := f2.kp (hk5.weak fun b hb => .inl hb)
      refine f3.weak (fun b hb hh => ?_) (by decide) txL_len
      rcases hh with q | q | q
      · rcases hn5 b q with r | r
        · exact .inl r
        · exact .inr (.inr (by omega))
      · rcases hs.2 b q with r | r
        · exact .inr (.inl r)
        · exact .inr (.inr (by omega))
      · exact .inr (.inr (by omega))
    · have f1 := e2.kp (Kp.of_below hb0)
      have f2 := f1.kp (hk.weak fun b hb => by rcases hb with q | q; · exact (hus b q).1
                                               · exact Nat.le_trans hBo q)
      exact f2.kp (hk5.weak fun b hb => hou.2 b hb)
  · have hie : i = ous.length := by
      have h5 := (List.getElem?_eq_some_iff.1 hx).1
      rw [List.length_append, List.length_singleton] at h5
      omega
    subst hie
    rw [List.getElem?_append_right (Nat.le_refl _), Nat.sub_self] at hx
    rw [h.len, List.getElem?_append_right (Nat.le_refl _), Nat.sub_self] at ho
    simp at hx ho
    subst hx ho
    refine ⟨?_, hg.kp (hk5.weak fun b hb => hou.2 b hb), hkk⟩
    refine RowG.rowNo (OwnF.row elT hd5) fun b hb hf => ?_
    rcases hf with q | q | q
    · rcases hn5 b q with r | r
      · exact hty hd b hb r
      · have := hd.lt b hb; omega
    · exact hne b q hb
    · have := hd5.lt b hb; omega
theorem OnI.obs {B : Nat} {W : World} {uo us : Value} {ous : List Ov} {st : On} (h : OnI B W uo us ous st) (hB : B ≤ W.heap.size) : ObsAt (fun b => W.heap.size ≤ b) W uo ous st.1 :=
  ⟨RowG.rowN (by decide) ovL_len (OwnF.row elO h.out) (fun b hb => hb), h.len, fun i x o hx ho => ⟨(h.ea i x o hx ho).1.weak (fun b _ hh => .inr (.inr hh)) (by decide) txL_len, (h.ea i x o hx ho).2.1.weak (fun b _ hh => Nat.le_trans hB hh) (by decide) txL_len⟩⟩
set_option maxHeartbeats 16000000 in
theorem only_c (v : Value) (ovs : List Ov) (O : List Ob) (w : World) (hV : ObsAt (fun b => w.heap.size ≤ b) w v ovs O) (hn : O.length ≤ 1000) (hM : ∀ o ∈ O, o.df.length ≤ 1048576) :
    Calls Try.prog 4 #[v] w fun e w' => ∃ a l c, ∃ ous : List Ov, e = .returned (.slice a l c) ∧ ObsAt (fun b => w'.heap.size ≤ b) w' (.slice a l c) ous (onlyN O).1 ∧ (∀ (i : Nat) (y : Ov), ous[i]? = some y → 0 ≤ y.k ∧ y.k ≤ 2) ∧ Below w.heap.size w w' := by
  obtain ⟨a1, c1, q1, _, _⟩ := hV.row.row.form
  obtain ⟨n, hnn⟩ : ∃ n, n = O.length := ⟨_, rfl⟩
  have HN := hidK hnn
  have HL := hidK hV.len
  rw [hV.len, ← hnn] at q1
  subst q1
  have HOB : Hid (∀ W, Below w.heap.size w W → ObsAt (fun b => w.heap.size ≤ b) W (.slice a1 n c1) ovs O) := fun W hb => hV.kp (Kp.of_below hb)
  have HM := hidK hM
  have HST : Hid (∀ k, k ≤ n → OnOk (O.take k) ((O.take k).foldl onN ([], []))) := fun k hk => on_take O k (by omega)
  have HSL : Hid (∀ k, k ≤ n → ((O.take k).foldl onN ([], [])).2.length ≤ 1048576 * k) := by
    intro k
    induction k with
    | zero => intro _; simp
    | succ k ih =>
      intro hk
      have hx : O[k]? = some (O[k]'(by omega)) := List.getElem?_eq_getElem (by omega)
      rw [takeSucc hx, List.foldl_append]
      have h1 := ih (by omega)
      have h2 : SeeOk ((O.take k).foldl onN ([], [])).2 (0 + (O[k]'(by omega)).df.length) ((O[k]'(by omega)).df.foldl seeN (((O.take k).foldl onN ([], [])).2, [])) := see_fold _ ⟨(List.append_nil _).symm, (on_take O k (by omega)).u, Nat.le_refl _⟩
      show ((O[k]'(by omega)).df.foldl seeN (((O.take k).foldl onN ([], [])).2, [])).1.length ≤ _
      rw [h2.e, List.length_append, Nat.mul_add]
      have := h2.l
      have := hM _ (List.mem_of_getElem? hx)
      omega
  rw [← hnn] at hn
  clear hV hnn hM
  go_enter Try.func4, Try.ntmps4
  go_wp2
  go_loopw [3, 4, 5] (fun o s i wx => ∃ k : Nat, i = .int .i64 k ∧ k ≤ n ∧ (∃ ous, OnI w.heap.size wx o s ous ((O.take k).foldl onN ([], []))) ∧ Below w.heap.size w wx) (fun _ _ i _ => n - (intOf i).toNat)
  case atStart => exact ⟨0, rfl, Nat.zero_le _, ⟨[], OwnF.nil, OwnF.nil, rfl, fun i x o hx => by simp at hx⟩, Below.refl _ _⟩
  case round =>
    obtain ⟨k, rfl, hkn, ⟨ous, hI⟩, hB⟩ := hrel
    obtain ⟨wo, hwo⟩ : ∃ y, y = wr := ⟨_, rfl⟩
    subst hwo
    obtain ⟨uo, huo⟩ : ∃ y, y = u3 := ⟨_, rfl⟩
    subst huo
    obtain ⟨us, hus⟩ : ∃ y, y = u4 := ⟨_, rfl⟩
    subst hus
    obtain ⟨st, hst⟩ : ∃ s, s = (O.take k).foldl onN ([], []) := ⟨_, rfl⟩
    rw [← hst] at hI
    have HI := hidK hI
    have HB := hidK hB
    by_cases hk : k < n
    · have kI : (k : Int) < (n : Int) := by omega
      have k0 : (0 : Int) ≤ (k : Int) := by omega
      have kw : IntKind.i64.wrap ((k : Int) + 1) = (k : Int) + 1 := by rw [IntKind.wrap_i64]; omega
      obtain ⟨o, hoj⟩ : ∃ o, O[k]? = some o := ⟨_, List.getElem?_eq_getElem (by have := HN.out; omega)⟩
      obtain ⟨⟨kk, xf, xg⟩, hx⟩ : ∃ y, ovs[k]? = some y := ⟨_, List.getElem?_eq_getElem (by have := HN.out; have := HL.out; omega)⟩
      have hobs := HOB.out wo hB
      obtain ⟨b1, o1, p1, e1, d0, d1, d2⟩ := hobs.row.row.ov hx
      simp only at d0 d1 d2
      obtain ⟨h1, h2⟩ := hobs.ea k _ o hx hoj
      simp only at h1 h2
      injection e1 with e1 e1b e1c
      subst e1
      obtain ⟨af, cf, ef, _, _⟩ := h1.row.form
      obtain ⟨lf, hlf⟩ : ∃ l, l = o.df.length := ⟨_, rfl⟩
      rw [← hlf] at ef
      subst ef
      obtain ⟨ag, cg, eg, _, _⟩ := h2.row.form
      obtain ⟨lg, hlg⟩ : ∃ l, l = o.nd.length := ⟨_, rfl⟩
      rw [← hlg] at eg
      subst eg
      have HNX : Hid ((O.take (k + 1)).foldl onN ([], []) = (st.1 ++ [⟨(o.df.foldl seeN (st.2, [])).2, o.nd⟩], (o.df.foldl seeN (st.2, [])).1)) := by
        show _ = _
        rw [takeSucc hoj, List.foldl_append, ← hst]; rfl
      have hok := HST.out k hkn
      have hsl := HSL.out k hkn
      rw [← hst] at hok hsl
      have hlf2 : lf ≤ 1048576 := by rw [hlf]; exact HM.out o (List.mem_of_getElem? hoj)
      have hsl2 : st.2.length ≤ 1048576000 := by
        have : 1048576 * k ≤ 1048576 * 1000 := Nat.mul_le_mul_left _ (by omega)
        omega
      have HSE : Hid (∀ m, SeeOk st.2 m ((o.df.take m).foldl seeN (st.2, []))) := fun m => by
        have h3 : SeeOk st.2 (0 + (o.df.take m).length) ((o.df.take m).foldl seeN (st.2, [])) := see_fold _ ⟨(List.append_nil _).symm, hok.u, Nat.le_refl _⟩
        exact ⟨h3.e, h3.u, by have := h3.l; rw [List.length_take] at this; omega⟩
      have HLF := hidK hlf
      have HD0 := hidK d0
      have HD2 := hidK d2
      have HC1 : Hid (∀ W, Below w.heap.size w W → W.cell? ⟨b1, o1 + k * 3 + 1, none⟩ = some (.slice af lf cf) ∧ RowN (fun b => w.heap.size ≤ b) txL W (.slice af lf cf) o.df ∧ RowN (fun b => w.heap.size ≤ b) txL W (.slice ag lg cg) o.nd) := fun W hb => by
        have ho2 := HOB.out W hb
        obtain ⟨b', o', p', e', f0, f1, f2⟩ := ho2.row.row.ov hx
        injection e' with e' _ _
        injection e' with e'
        injection e' with q1 q2 _
        subst q1 q2
        exact ⟨f1, ho2.ea k _ o hx hoj⟩
      have hv0 : ∀ W, Below wo.heap.size wo W → W.cell? ⟨b1, o1 + k * 3, none⟩ = some (.int .i64 kk) := fun W hb => cell_onG HD0.out hb
      have hv2 : ∀ W, Below wo.heap.size wo W → W.cell? ⟨b1, o1 + k * 3 + 2, none⟩ = some (.slice ag lg cg) := fun W hb => cell_onG HD2.out hb
      have hb0 : Below wo.heap.size wo wo := Below.refl _ _
      have hol : ous.length ≤ 1000 := by rw [hI.len, hok.l, List.length_take]; omega
      have HOL := hidK hol
      clear hobs hx e1b e1c h1 h2 hlf hlg hst hI hok hsl hoj hol
      go_upto_region 6 with fail
      clear d0 d1 d2
      go_region_held3 (fun w' => Below wo.heap.size wo w') (first | with_reducible assumption | with_reducible exact hb0.drew | with_reducible exact hSw.drew | with_reducible exact bupK hSw _ | with_reducible exact bupK hb0.drew _ | with_reducible exact bupK hb0 _ | with_reducible exact (bupK hb0 _).drew | with_reducible exact (bupK hb0.drew _).drew) (fail)
      rw [k3_is]
      obtain ⟨W0, hW0⟩ : ∃ W0, W0 = (wo.alloc (.cells #[.int .i64 (k3 kk), .slice none 0 0, .slice ag lg cg] 38)).drew := ⟨_, rfl⟩
      rw [← hW0]
      have hb9 : Below wo.heap.size wo W0 := by rw [hW0]; exact ((Below.refl _ _).alloc (Nat.le_refl _) _).drew
      have hg9 : W0.heap[wo.heap.size]? = some (.cells #[.int .i64 (k3 kk), .slice none 0 0, .slice ag lg cg] 38 (0, 0)) := by rw [hW0]; exact heap_alloc_new _ _
      have HB9 := hidK hb9
      have HG9 := hidK hg9
      have HS9 : Hid (W0.heap.size = wo.heap.size + 1) := by show _ = _; rw [hW0]; exact World.size_alloc _ _
      have HUL : Hid (∀ b, us.ownBlock = some b → w.heap.size ≤ b ∧ b < wo.heap.size) := fun b hb => ⟨HI.out.sn.2 b hb, HI.out.sn.lt b hb⟩
      have HBX : Hid (∀ W, Kp (fun b => us.ownBlock = some b ∨ wo.heap.size ≤ b) W0 W → Below w.heap.size w W) := fun W hk => by
        have h1 := HB.out.trans (HB9.out.mono HB.out.size)
        exact h1.trans (hk.below (fun b hb => by rcases hb with q | q; · exact (HUL.out b q).1
                                                 · exact Nat.le_trans HB.out.size q) h1.size)
      have HS0 : Hid (OwnF (fun b => us.ownBlock = some b ∨ wo.heap.size < b) txL 1 9 W0 us st.2) := ⟨(HI.out.sn.on hb9).1, fun b hb => .inl hb⟩
      clear hv0 hv2 hb0 hb9 hg9 hW0 HD0 HD2 hB
      go_wp2
      go_loopw [4, 7] (fun s j wx => ∃ (m : Nat) (vd : Value), j = .int .i64 m ∧ m ≤ lf ∧ wx.heap[wo.heap.size]? = some (.cells #[.int .i64 (k3 kk), vd, .slice ag lg cg] 38 (0, 0)) ∧ OwnF (fun b => us.ownBlock = some b ∨ wo.heap.size < b) txL 1 9 wx s ((o.df.take m).foldl seeN (st.2, [])).1 ∧ OwnF (fun b => wo.heap.size < b) txL 1 9 wx vd ((o.df.take m).foldl seeN (st.2, [])).2 ∧ (∀ b, s.ownBlock = some b → vd.ownBlock = some b → False) ∧ Kp (fun b => us.ownBlock = some b ∨ wo.heap.size ≤ b) W0 wx) (fun _ j _ => lf - (intOf j).toNat)
      case atStart => exact ⟨0, _, rfl, Nat.zero_le _, HG9.out, HS0.out, OwnF.nil, fun b _ h => by simp [Value.ownBlock] at h, Kp.refl _ _⟩
      case round =>
        obtain ⟨m, vd, rfl, hmn, hg, hs, hd, hne, hkp⟩ := hrel
        clear HG9 HS0
        obtain ⟨ad, cd, ed, _⟩ := hd.form
        obtain ⟨ld, hld⟩ : ∃ l, l = ((o.df.take m).foldl seeN (st.2, [])).2.length := ⟨_, rfl⟩
        rw [← hld] at ed
        subst ed
        have HG := hidK hg
        have HS := hidK hs
        have HD := hidK hd
        have HNE := hidK hne
        have HKP := hidK hkp
        have hbx := HBX.out wr hkp
        obtain ⟨d1, hrf, hrg⟩ := HC1.out wr hbx
        have HBW := hidK hbx
        have HRG := hidK hrg
        obtain ⟨z0, z1, z2⟩ := lk_cells hg
        by_cases hm : m < lf
        · have mI : (m : Int) < (lf : Int) := by omega
          have m0 : (0 : Int) ≤ (m : Int) := by omega
          have mw : IntKind.i64.wrap ((m : Int) + 1) = (m : Int) + 1 := by rw [IntKind.wrap_i64]; omega
          obtain ⟨y, hy⟩ : ∃ y, o.df[m]? = some y := ⟨_, List.getElem?_eq_getElem (by have := HLF.out; omega)⟩
          obtain ⟨b2, o2, p2, e2, f0⟩ := hrf.row.tx hy
          injection e2 with e2 e2b e2c
          subst e2
          obtain ⟨t, ht⟩ : ∃ t, t = (o.df.take m).foldl seeN (st.2, []) := ⟨_, rfl⟩
          have HNT : Hid ((o.df.take (m + 1)).foldl seeN (st.2, []) = seeN t y) := by show _ = _; rw [takeSucc hy, List.foldl_append, ← ht]; rfl
          have hse := HSE.out m
          rw [← ht] at HS HD hld hse
          have hl1 : t.1.length ≤ 2097152000 := by rw [hse.e, List.length_append]; have := hse.l; omega
          have hl2 : t.2.length ≤ 1048576 := by have := hse.l; omega
          have HL1 := hidK hl1
          have HL2 := hidK hl2
          have HH := hidK (has_c u4 t.1 y wr (OwnF.row elT HS.out) (by omega))
          have HCY : Hid (∀ W, Kp (fun b => w.heap.size ≤ b) wr W → W.cell? ⟨b2, o2 + m, none⟩ = some (.string y)) := fun W hk2 => by
            obtain ⟨b', o', p', e', f'⟩ := (hrf.kp hk2).row.tx hy
            injection e' with e' _ _
            injection e' with e'
            injection e' with q1 q2 _
            subst q1 q2
            exact f'
          clear hy e2b e2c ht hld hse hg hs hd hne hkp hbx hrf hrg hl1 hl2
          cases hi : isIn t.1 y with
          | true =>
            rw [hi] at HH
            have HSN := hidK (seeN_yes hi)
            clear hi
            go_wp2_with (go_at_call 9; refine HH.out.mono ?_; rintro e w6 ⟨rfl, hw6⟩; subst w6)
            go_roundw
            case rel => exact ⟨m + 1, _, by go_num, by omega, HG.out, by rw [HNT.out, HSN.out]; exact HS.out, by rw [HNT.out, HSN.out]; exact HD.out, HNE.out, HKP.out⟩
            case measure => simp [intOf]; omega
          | false =>
            rw [hi] at HH
            have HSN := hidK (seeN_no hi)
            clear hi
            have HSZ : Hid (∀ b, wr.heap.size ≤ b → us.ownBlock = some b ∨ wo.heap.size < b) := fun b hb => .inr (by have := HKP.out.size; have := HS9.out; omega)
            go_upto_region 13 with (first
              | (go_at_call 9; refine HH.out.mono ?_; rintro e w6 ⟨rfl, hw6⟩; subst w6)
              | (refine wpG_one elT rfl (.tmp 51) (.tmp 60) rfl _ t.1 y #[.string y] rfl rfl rfl HS.out (txL_one y) (by have := HL1.out; omega) HSZ.out ?_; intro s4 w4 o4 k4 l4; have HO4 := hidK o4; have HK4 := hidK k4; have HL4 := hidK l4; clear o4 k4 l4))
            have HU4 : Hid (∀ b, u4.ownBlock = some b → b ≠ wo.heap.size ∧ (us.ownBlock = some b ∨ wo.heap.size ≤ b)) := fun b hb => by
              rcases HS.out.2 b hb with q | q
              · have := (HUL.out b q).2; exact ⟨by omega, .inl q⟩
              · exact ⟨by omega, .inr (by omega)⟩
            have hg4 : w4.heap[wo.heap.size]? = some (.cells #[.int .i64 (k3 kk), .slice ad ld cd, .slice ag lg cg] 38 (0, 0)) := (HK4.out.block _ (Array.getElem?_eq_some_iff.1 HG.out).1 (fun e => (HU4.out _ e).1 rfl)).trans HG.out
            have hd4 : OwnF (fun b => wo.heap.size < b) txL 1 9 w4 (.slice ad ld cd) t.2 := HD.out.kp HK4.out (fun b hb hu => HNE.out b hu hb)
            have hk4 : Kp (fun b => us.ownBlock = some b ∨ wo.heap.size ≤ b) W0 w4 := HKP.out.trans (HK4.out.weak fun b hb => (HU4.out b hb).2)
            have hb4 := HBX.out w4 hk4
            obtain ⟨g0, g1, g2⟩ := lk_cells hg4
            obtain ⟨e1, _, _⟩ := HC1.out w4 hb4
            have e0 := HCY.out w4 (HK4.out.weak fun b hb => by
              rcases (HU4.out b hb).2 with q | q
              · exact (HUL.out b q).1
              · exact Nat.le_trans HB.out.size q)
            obtain ⟨X, hX⟩ : ∃ X, X = Obj.cells #[.string y] 9 := ⟨_, rfl⟩
            have hbC : Below w4.heap.size w4 (w4.alloc X) := (Below.refl _ _).alloc (Nat.le_refl _) X
            have HO2 : Hid (OwnF (fun b => wo.heap.size < b) txL 1 9 (w4.alloc X) (.slice ad ld cd) t.2) := hd4.on hbC
            have HR2 : Hid (RowG txL (w4.alloc X) (.slice (some ⟨w4.heap.size, 0, none⟩) 1 1) [y]) := by
              have := rowG_new elT w4 y #[.string y] rfl
              rw [← hX] at this
              exact this
            have HGC : Hid ((w4.alloc X).heap[wo.heap.size]? = some (.cells #[.int .i64 (k3 kk), .slice ad ld cd, .slice ag lg cg] 38 (0, 0))) := hkeepK hbC hg4
            have HG2 : Hid (∀ w5, Kp (fun b => (Value.slice ad ld cd).ownBlock = some b) (w4.alloc X) w5 → w5.heap[wo.heap.size]? = some (.cells #[.int .i64 (k3 kk), .slice ad ld cd, .slice ag lg cg] 38 (0, 0))) := fun w5 k5 => (k5.block _ (Array.getElem?_eq_some_iff.1 HGC.out).1 (fun e => by have := HO2.out.2 _ e; omega)).trans HGC.out
            have HF2 : Hid (∀ b, (w4.alloc X).heap.size ≤ b → wo.heap.size < b) := fun b hb => by
              have := hk4.size
              have := HS9.out
              rw [World.size_alloc] at hb
              omega
            have c1 := cell_onG g1 hbC
            have HBC := hidK hbC
            have HK4b := hidK hk4
            clear hg4 hd4 hk4 hb4 hbC HGC z0 z1 z2 d1 f0 g0 g2
            subst hX
            go_region_law (refine stepG_all (F := fun b => wo.heap.size < b) elT rfl (.tmp 63) (.tmp 72) rfl (.slice ad ld cd) t.2 y w4.heap.size 1 (by simp [Act.eval]) (by simp [Act.eval]) (by exact HO2.out) (by exact HR2.out) (txL_one _) (by have := HL2.out; omega) (by exact HF2.out) ?_; intro v5 w5 o5 k5 l5; obtain ⟨a5, p5, e5, _⟩ := o5.form; obtain ⟨m5, hm5⟩ : ∃ m, m = (t.2 ++ [y]).length := ⟨_, rfl⟩; rw [← hm5] at e5; clear hm5; subst e5; have hb2 := HG2.out _ (Kp.undrew k5); have d2 : w5.cell? ⟨wo.heap.size, 1, none⟩ = some (.slice ad ld cd) := cell_rowK hb2 1 _ rfl; have f2 := Lib.frozen_of_heap hb2 1)
            all_goals
              have HK5 : Hid (∀ W, W = w5.setCell ⟨wo.heap.size, 1, none⟩ (.slice a5 m5 p5) → W.heap[wo.heap.size]? = some (.cells #[.int .i64 (k3 kk), .slice a5 m5 p5, .slice ag lg cg] 38 (0, 0)) ∧ OwnF (fun b => us.ownBlock = some b ∨ wo.heap.size < b) txL 1 9 W s4 (t.1 ++ [y]) ∧ OwnF (fun b => wo.heap.size < b) txL 1 9 W (.slice a5 m5 p5) (t.2 ++ [y]) ∧ (∀ b, s4.ownBlock = some b → (Value.slice a5 m5 p5).ownBlock = some b → False) ∧ Kp (fun b => us.ownBlock = some b ∨ wo.heap.size ≤ b) W0 W) := by
                rintro W rfl
                have k5' := Kp.undrew k5
                have q5 := kq_set w5 wo.heap.size 1 (.slice a5 m5 p5)
                have hsa := HO4.out.on HBC.out
                have hs4 : ∀ b, s4.ownBlock = some b → b ≠ wo.heap.size ∧ ¬ (Value.slice ad ld cd).ownBlock = some b := fun b hb => by
                  refine ⟨?_, fun hu => ?_⟩
                  · rcases HO4.out.2 b hb with q | q
                    · have := (HUL.out b q).2; omega
                    · omega
                  · rcases HL4.out b hb with q | q
                    · exact HNE.out b q hu
                    · have := HD.out.lt b hu; omega
                have hs5 := hsa.kp k5' (fun b hb => (hs4 b hb).2)
                refine ⟨blk_set hb2 _, hs5.keep (fun b hb => q5.block b (hs4 b hb).1 (hs5.lt b hb)), o5.keep (fun b hb => q5.block b (by have := o5.2 b hb; omega) (o5.lt b hb)), fun b hb hv => ?_, ?_⟩
                · rcases l5 b hv with q | q
                  · exact (hs4 b hb).2 q
                  · have h7 := HO4.out.lt b hb
                    have q' : (w4.alloc (.cells #[.string y] 9)).heap.size ≤ b := q
                    rw [World.size_alloc] at q'
                    omega
                · exact ((HK4b.out.trans (Kp.of_below HBC.out)).trans (k5'.weak fun b hb => .inr (by have := HO2.out.2 b hb; omega))).trans (Kp.kq q5 (.inr (Nat.le_refl _)))
              obtain ⟨x5, y5, z5, n5, r5⟩ := HK5.out _ rfl
              generalize w5.setCell ⟨wo.heap.size, 1, none⟩ (.slice a5 m5 p5) = W5 at x5 y5 z5 n5 r5 ⊢
              have HX5 := hidK x5
              have HY5 := hidK y5
              have HZ5 := hidK z5
              have HN5 := hidK n5
              have HR5 := hidK r5
              clear x5 y5 z5 n5 r5 HK5 o5 k5 l5 hb2 d2 f2 c1 e0 e1 g1
              go_wp2
              go_roundw
              case rel => exact ⟨m + 1, _, by go_num, by omega, HX5.out, by rw [HNT.out, HSN.out]; exact HY5.out, by rw [HNT.out, HSN.out]; exact HZ5.out, HN5.out, HR5.out⟩
              case measure => simp [intOf]; omega
        · obtain rfl : m = lf := by omega
          have HT : Hid (o.df.take m = o.df) := by show _ = _; rw [HLF.out, List.take_length]
          rw [HT.out] at HS HD
          have HOU : Hid (OwnF (fun b => w.heap.size ≤ b) ovL 3 38 wr uo ous) := (HI.out.out.on HB9.out).kp HKP.out (fun b hb hh => by
            have h8 := HI.out.out.lt b hb
            rcases hh with q | q
            · obtain ⟨c1, e1⟩ := HI.out.out.typed hb
              obtain ⟨c2, e2⟩ := HI.out.sn.typed q
              exact cells_typ e1 e2 (by decide) rfl
            · omega)
          clear hg hs hd hne hkp hbx hrf hrg hld
          go_upto_region 14 with fail
          go_wp2_with (refine wpG_one elO rfl (.tmp 75) (.tmp 77) rfl _ ous (⟨k3 kk, .slice ad ld cd, .slice ag lg cg⟩ : Ov) #[.int .i64 (k3 kk), .slice ad ld cd, .slice ag lg cg] rfl rfl rfl HOU.out (by intro u hu; simp [ovL] at hu; rcases hu with rfl | rfl | rfl <;> rfl) (by have := HOL.out; omega) (fun b hb => Nat.le_trans HBW.out.size hb) ?_; intro v5 w5 o5 k5 l5; have HO5 := hidK o5; have HK5 := hidK k5; have HL5 := hidK l5; clear o5 k5 l5)
          go_roundw
          case rel => exact ⟨k + 1, by go_num, by omega, ⟨_, by rw [HNX.out]; exact HI.out.step HB9.out HB.out.size HKP.out HS.out HD.out HNE.out HRG.out (k3_le kk) HOU.out HO5.out HK5.out HL5.out⟩, HBW.out.trans (HK5.out.below (fun b hb => HOU.out.2 b hb) HBW.out.size)⟩
          case measure => simp [intOf]; omega
    · obtain rfl : k = n := by omega
      have HS : Hid (st = onlyN O) := by show _ = _; rw [hst, HN.out, List.take_length]; rfl
      rw [HS.out] at HI
      clear hI hB hst
      go_wp2
      go_ret
      obtain ⟨a, c, e, _⟩ := HI.out.out.form
      have hob := HI.out.obs HB.out.size
      refine ⟨a, _, c, ous, by rw [← e]; rfl, by rw [← e]; exact hob, fun i y hy => ?_, HB.out⟩
      exact (HI.out.ea i y _ hy (List.getElem?_eq_getElem (by rw [← HI.out.len]; exact (List.getElem?_eq_some_iff.1 hy).1))).2.2
end Go.Proofs.Ytnnpdomfkedhpaa
