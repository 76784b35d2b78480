-- Crash.
import Derived.Test.YtodjgbmfmpbkjabV20
import Derived.Test.YtodjgbmfmpbkjabV19
namespace Go.Proofs.Ytodjgbmfmpbkjab
open Go.RowKit
set_option linter.unusedVariables false
/-- The volume on the way through a crash: j files cut. -/
def midSt (st : St) (d : Dr) (cuts : List Int) (j : Nat) : St := { st with bodies := cutTo cuts d st.bodies j, dirs := [d] }
theorem mid_wf {st : St} (hw : Wf st) {d : Dr} (hd : d ∈ st.dirs) (cuts : List Int) (j : Nat) : Wf (midSt st d cuts j) where
  ne := by simp [midSt]
  few := fun x hx => by simp [midSt] at hx; subst hx; exact hw.few _ hd
  led := fun x hx e he => by simp [midSt] at hx; subst hx; show 1 ≤ e.2 ∧ e.2 ≤ (cutTo cuts x st.bodies j).length; rw [cutTo_len]; exact hw.led _ hd e he
  bod := cutTo_bod cuts d st.bodies j hw.bod
  cap := hw.cap
  many := by show (cutTo cuts d st.bodies j).length ≤ _; rw [cutTo_len]; exact hw.many
  long := by show ([d] : List Dr).length ≤ _; simp
theorem mid_now (st : St) (d : Dr) (cuts : List Int) (j : Nat) : (midSt st d cuts j).now = d := by simp [midSt, St.now]
/-- The next file cut. -/
theorem mid_step {st : St} {d : Dr} {cuts : List Int} {j i : Nat} {nm : ByteArray} {x : Bd} (hj : d[j]? = some (nm, i + 1)) (hx : (midSt st d cuts j).bodies[i]? = some x) :
    (midSt st d cuts j).put ((i + 1 : Nat) : Int) (cutX x (cutOf cuts j (x.data.size - x.safe))) = midSt st d cuts (j + 1) := by
  unfold St.put midSt
  rw [Int.toNat_natCast, Nat.add_sub_cancel]
  have hx' : (cutTo cuts d st.bodies j)[i]? = some x := hx
  simp only [cutTo, hj, Nat.add_sub_cancel, hx']
  rfl
theorem cutOf_within (cuts : List Int) (j loose : Nat) : (within (if cuts = [] then 0 else cuts.getD (j % cuts.length) 0) 0 (loose : Int)).toNat = cutOf cuts j loose := by
  unfold cutOf
  split
  · unfold within; simp; omega
  · rfl
theorem psx_num {F : Nat → Prop} {p : Nat} {st : St} {w : World} (h : PSx F p st w) (hw : Wf st) {nm : ByteArray} {n : Nat} (hm : (nm, n) ∈ st.now) : ∃ i b x vd vt, n = i + 1 ∧ st.bodies[i]? = some x ∧ BodyAt w b x ∧ w.cell? ⟨p, 2, none⟩ = some vd ∧ w.cell? ⟨p, 4, none⟩ = some vt ∧
    (∀ W, W.heap = w.heap → (Instr.lookup 62 vd (.string nm) false).run Try.prog W = .ok (.int .i64 ((i + 1 : Nat) : Int)) W) ∧ (∀ W, W.heap = w.heap → (Instr.lookup 63 vt (.int .i64 ((i + 1 : Nat) : Int)) false).run Try.prog W = .ok (.pointer (some ⟨b, 0, none⟩)) W) ∧
    ∀ w' x', Only b w w' → BodyAt w' b x' → PSx (ext F w w') p (st.put ((i + 1 : Nat) : Int) x') w' ∧ Kp F w w' := by
  obtain ⟨d0, cs, T, K, vd, vs, vt, vk, vp, O⟩ := psx_open h
  have hth : there st.now (n : Int) = true := by
    unfold there; rw [List.any_eq_true]; exact ⟨_, hm, by simp⟩
  rcases body_of (p := p) O.bod O.inv hw (n : Int) with ⟨h1, _⟩ | ⟨i, b, x, hn, h1, h2, h3, h4, h5⟩
  · rw [hth] at h1; cases h1
  have hn' : n = i + 1 := by omega
  subst hn'
  have hld : leads st.now nm = i + 1 := dw_leads (O.inv.dw.now hw) hm (fun f hf => by have := Inv.pos hw f hf; omega)
  have hkeep : ∀ (W : World), W.heap = w.heap → ∀ {d : TypeDesc} {v : Value} {l : Prs}, MapV d w v l → MapV d W v l := fun W hW {d v l} hv => by
    rcases hv with hv | ⟨b', rfl, hm'⟩
    · exact .inl hv
    · exact .inr ⟨b', rfl, hm'.keep (by rw [hW])⟩
  refine ⟨i, b, x, vd, vt, rfl, h2, h5, (disk_cells O.blk).2.2.1, (disk_cells O.blk).2.2.2.2.1, fun W hW => ?_, fun W hW => ?_, fun w' x' ho hb => O.put h2 h1 ho hb⟩
  · have := (hkeep W hW O.maps.v.1).sv_look false (Inv.pos hw) nm
    rw [hld] at this; simpa using this
  · have := (hkeep W hW O.maps.v.2.2.1).bv_look false h1
    simpa using this
theorem ext_lt {F : Nat → Prop} {w w' : World} (hF : ∀ k, F k → k < w.heap.size) (hs : w.heap.size ≤ w'.heap.size) : ∀ k, ext F w w' k → k < w'.heap.size := fun k hk => by
  rcases hk with hk | hk
  · have := hF k hk; omega
  · exact hk.2
set_option maxHeartbeats 8000000 in
theorem crash_q (F : Nat → Prop) (p : Nat) (st : St) (n : Int) (cv : Value) (cuts : List Int) (w : World) (h : PSx F p st w) (hw : Wf st) (hcut : RowI w cv cuts) (hcF : cuts ≠ [] → ∀ k, cv.ownBlock = some k → ¬ F k) (hcl : cuts.length ≤ 4194304) (hFl : ∀ k, F k → k < w.heap.size) :
    Calls Try.prog 34 #[.pointer (some ⟨p, 0, none⟩), .int .i64 n, cv] w fun e w' => e = .returned (.tuple #[]) ∧ PDid PSx F p (st.crash n cuts) w w' := by
  obtain ⟨d0, cs, T, K, vd, vs, vt, vk, vp, O⟩ := psx_open h
  have hlen : cs.length ≤ 2097152 := by have := hw.long; have := O.inv.cs_len; omega
  obtain ⟨ao, cp, c6, hcl6, hcm, f6⟩ := O.raw.p6
  obtain ⟨m, hm1, hm2, hm3⟩ := cutDir_get hw n
  have hdl := O.inv.cs_len
  have hmc : m ≤ cs.length := by omega
  have hmin : min (max n 0) (cs.length : Int) = (m : Int) := by
    rw [← hm1, show st.dirs.length - 1 = cs.length by omega]; unfold within
    rcases (by omega : n < 0 ∨ 0 ≤ n) with h1 | h1
    · rw [if_pos h1, Int.max_eq_right (by omega), Int.min_eq_left (by omega)]
    · rw [if_neg (by omega), Int.max_eq_left h1]
      split
      · rw [Int.min_eq_right (by omega)]
      · rw [Int.min_eq_left (by omega)]
  have hcd : st.cutDir n = endOf d0 (cs.take m) := by
    have := hm3
    rw [O.inv.dirs, chain_get d0 cs m hmc] at this
    exact (Option.some.inj this).symm
  have hdm : st.cutDir n ∈ st.dirs := List.mem_of_getElem? hm3
  have hdw : Dw (st.cutDir n) := O.inv.dw _ hdm
  obtain ⟨D, hD⟩ : ∃ D, D = st.cutDir n := ⟨_, rfl⟩
  have HS : Hid (Calls Try.prog 48 #[.pointer (some ⟨p, 0, none⟩), .int .i64 m] w fun e w1 => e = .returned (.tuple #[]) ∧ Calls Try.prog 49 #[.pointer (some ⟨p, 0, none⟩)] w1 fun e w2 => e = .returned (.tuple #[]) ∧ PDid PSx F p (midSt st D cuts 0) w w2) := (settle_c m F p _ _ st.now d0 cs T K st.bodies w O.raw hmc hlen).mono (by
    rintro e w1 ⟨rfl, r1, k1⟩
    refine ⟨rfl, ?_⟩
    rw [← hcd, ← hD] at r1
    rw [← hD] at hdw hdm
    refine (goBack_p (ext F w w1) p _ _ st.now D T K st.bodies w1 r1 hdw.unlike (fun e he => O.inv.all D hdm e he) (ext_lt hFl k1.size)).mono ?_
    rintro e w2 ⟨rfl, ⟨B, hB, r2⟩, k2⟩
    have s2 := k2.size
    have s1 := k1.size
    refine ⟨rfl, ⟨D, [], B, [], ?_, ⟨rfl, fun d hd => by simp [midSt] at hd; subst hd; exact hdw, ?_, fun d hd e he => ?_, by simp⟩⟩, k1.then k2⟩
    · rw [mid_now]
      refine r2.keep (fun _ _ _ => rfl) fun k hk => ?_
      rcases hk with (hk | hk) | hk
      · exact .inl hk
      · exact .inr ⟨hk.1, by omega⟩
      · exact .inr ⟨by omega, hk.2⟩
    · rw [mid_now]; simpa using hB.num
    · simp [midSt] at hd
      subst hd
      exact .inl ((by simpa using hB.num : (B.map (·.1)).Perm (d.map (·.2))).mem_iff.2 (List.mem_map.2 ⟨e, he, rfl⟩)))
  have HWF : Hid (∀ j, Wf (midSt st D cuts j)) := fun j => mid_wf hw (by rw [hD]; exact hdm) cuts j
  have HNM : Hid (∀ W G, PSx G p (midSt st D cuts 0) W → Calls Try.prog 37 #[.pointer (some ⟨p, 0, none⟩)] W fun e w' => ∃ ag cap, e = .returned (.slice ag D.length cap) ∧ w'.ownsRow W.heap.size 9 1 (.slice ag D.length cap) D.length (strV (D.map (·.1))) ∧ Below W.heap.size W w') := fun W G hG => by
    obtain ⟨d0', cs', T', K', vd', vs', vt', vk', vp', O'⟩ := psx_open hG
    have hnow := mid_now st D cuts 0
    have hc := pnames_c p vd' (midSt st D cuts 0).now W (disk_cells O'.blk).2.2.1 O'.maps.v.1 (O'.inv.dw.now (HWF.out 0)) (now_len (HWF.out 0))
    rw [hnow] at hc
    refine hc.mono ?_
    rintro e w' ⟨⟨v, rfl, ho⟩, hb⟩
    obtain ⟨ag, cap, rfl⟩ := own_shape ho
    exact ⟨ag, cap, rfl, ho, hb⟩
  have HCR : Hid (st.crash n cuts = midSt st D cuts D.length) := by show _ = _; unfold St.crash midSt; rw [← hD]
  have HCUT : Hid (RowI w cv cuts ∧ (cuts ≠ [] → ∀ k, cv.ownBlock = some k → ¬ F k)) := ⟨hcut, hcF⟩
  have hDl : D.length ≤ 64 := by rw [hD]; exact hw.few _ hdm
  obtain ⟨N, hN⟩ : ∃ N, N = cs.length := ⟨_, rfl⟩
  rw [← hN] at c6 hmin
  have HFL : Hid (∀ k, F k → k < w.heap.size) := hFl
  clear h hw hcut hcF hFl O hlen hcl6 hcm f6 hm1 hm2 hm3 hdl hmc hcd hdm hdw hD hN
  go_enter Try.func34, Try.ntmps34
  go_wp2_with (first
    | (go_at_call 48; refine HS.out.mono ?_; rintro e w1 ⟨rfl, hgb⟩; have HGB : Hid (type_of% hgb) := hgb; clear hgb)
    | (go_at_call 49; refine HGB.out.mono ?_; rintro e w2 ⟨rfl, hpd⟩; have HPD : Hid (PDid PSx F p (midSt st D cuts 0) w w2) := hpd; clear hpd)
    | (go_at_call 37; refine (HNM.out _ _ HPD.out.1).mono ?_; rintro e w3 ⟨ag, cap, rfl, ho3, hb3⟩))
  have H3 : Hid (w3.ownsRow w2.heap.size 9 1 (.slice ag D.length cap) D.length (strV (D.map (·.1))) ∧ Below w2.heap.size w2 w3) := ⟨ho3, hb3⟩
  have hs23 := hb3.size
  have hs02 := HPD.out.2.size
  obtain ⟨L, hL⟩ : ∃ L, L = D.length := ⟨_, rfl⟩
  have HL : Hid (L = D.length) := hL
  rw [← hL] at hDl
  rw [← hL]
  have HEL : Hid (∀ k, ext F w w2 k → k < w2.heap.size) := ext_lt HFL.out hs02
  clear ho3 hb3 c6 hmin hL HS HGB HNM
  go_loopw [23] (fun i wr => ∃ j : Nat, i = .int .i64 j ∧ j ≤ L ∧ (∃ G, PSx G p (midSt st D cuts j) wr ∧ (∀ k, G k → (ext F w w2 k ∨ w3.heap.size ≤ k) ∧ k < wr.heap.size)) ∧ Kp (ext F w w2) w3 wr) (fun i _ => L - (intOf i).toNat)
  case atStart => exact ⟨0, rfl, Nat.zero_le _, ⟨ext F w w2, (psx_below HPD.out.1 H3.out.2).1, fun k hk => ⟨.inl hk, by have := HEL.out k hk; omega⟩⟩, Kp.refl _ _⟩
  case round =>
    obtain ⟨j, rfl, hjl, ⟨G, hps, hG⟩, hkp⟩ := hrel
    have hsr := hkp.size
    by_cases hj : j < L
    · obtain ⟨e, he⟩ : ∃ e, D[j]? = some e := ⟨_, List.getElem?_eq_getElem (by rw [← HL.out]; exact hj)⟩
      obtain ⟨nm, num⟩ := e
      have hmem : (nm, num) ∈ (midSt st D cuts j).now := by rw [mid_now]; exact List.mem_of_getElem? he
      obtain ⟨i, b, x, vd', vt', rfl, hx, hbx, y2, y4, hl1, hl2, hput⟩ := psx_num hps (HWF.out j) hmem
      obtain ⟨g, hag⟩ : ∃ g, ag = some ⟨g, 0, none⟩ := by
        rcases H3.out.1.2 with ⟨h1, h2⟩ | ⟨g, cap', cur, hv, _⟩
        · rw [← HL.out] at h2; omega
        · injection hv with h1; exact ⟨g, h1⟩
      have hcell3 : w3.cell? ⟨g, j, none⟩ = some (.string nm) := by
        have := H3.out.1.cells (g := g) (by rw [hag]; rfl) j (.string nm) (by simp [strV, he])
        rw [add_lit0] at this; exact this
      have hgl : w2.heap.size ≤ g ∧ g < w3.heap.size := H3.out.1.lt g (by rw [hag]; rfl)
      have hgb : wr.heap[g]? = w3.heap[g]? := hkp.block g hgl.2 (fun e => by have := HEL.out g e; omega)
      have xn : wr.cell? ⟨g, 0 + j, none⟩ = some (.string nm) := by
        rw [Nat.zero_add]; exact (World.cell?_of_block (a := ⟨g, j, none⟩) hgb).trans hcell3
      have xn' : wr.cell? ⟨g, j, none⟩ = some (.string nm) := (World.cell?_of_block (a := ⟨g, j, none⟩) hgb).trans hcell3
      have hrow : RowI wr cv cuts := by
        have h2 := HCUT.out.1.kept HPD.out.2 HCUT.out.2
        rcases h2 with h2 | ⟨cb, off, ccap, hcv, hp0, hcc⟩
        · exact .inl h2
        · refine .inr ⟨cb, off, ccap, hcv, hp0, fun q hq => ?_⟩
          have hcb : cb < w.heap.size := by
            rcases HCUT.out.1 with ⟨h5, _⟩ | ⟨cb', off', ccap', hcv', _, hcc'⟩
            · rw [h5] at hp0; simp at hp0
            · rw [hcv] at hcv'; cases hcv'; exact World.block_lt_of_cell? w _ (hcc' q hq)
          have hnF : ¬ F cb := HCUT.out.2 (List.length_pos_iff.1 hp0) cb (by rw [hcv]; rfl)
          have e1 : wr.heap[cb]? = w2.heap[cb]? := (hkp.block cb (by omega) (fun e => by
            rcases e with e | e
            · exact hnF e
            · omega)).trans (H3.out.2.block cb (by omega))
          exact (World.cell?_of_block (a := ⟨cb, off + q, none⟩) e1).trans (hcc q hq)
      have hbod := (HWF.out j).bod x (List.mem_of_getElem? hx)
      have HCO : Hid (∀ W, W.heap = wr.heap → Calls Try.prog 51 #[cv, .int .i64 j] W fun e w' => e = .returned (.int .i64 (if cuts = [] then 0 else cuts.getD (j % cuts.length) 0)) ∧ w' = W) := fun W hW => cutOf_c cv cuts j W (by
        rcases hrow with h1 | ⟨cb, off, ccap, h1, h2, h3⟩
        · exact .inl h1
        · exact .inr ⟨cb, off, ccap, h1, h2, fun q hq => (World.cell?_of_block (a := ⟨cb, off + q, none⟩) (by rw [hW])).trans (h3 q hq)⟩) hcl (by omega)
      obtain ⟨kp, hkpv⟩ : ∃ kp, kp = (if cuts = [] then 0 else cuts.getD (j % cuts.length) 0) := ⟨_, rfl⟩
      rw [← hkpv] at HCO
      have HBC : Hid (∀ W, W.heap = wr.heap → W.os = wr.os → W.tape = wr.tape → W.output = wr.output → Calls Try.prog 50 #[.pointer (some ⟨b, 0, none⟩), .int .i64 kp] W fun e w' => e = .returned (.tuple #[]) ∧ Hid ((∃ G, PSx G p (midSt st D cuts (j + 1)) w' ∧ (∀ k, G k → (ext F w w2 k ∨ w3.heap.size ≤ k) ∧ k < w'.heap.size)) ∧ Kp (ext F w w2) w3 w')) := fun W hW1 hW2 hW3 hW4 => (bcrash_c b x kp W (hbx.keep (by rw [hW1]) fun k _ => by rw [hW1]) hbod.2 (by omega)).mono (by
        rintro e w' ⟨rfl, hb', ho'⟩
        have hbuf : ∀ q, bufOf W q = bufOf wr q := fun q => bufOf_keep (by rw [hW1])
        have ho : Only b wr w' := ⟨ho'.os.trans hW2, ho'.tape.trans hW3, ho'.output.trans hW4, by rw [← hW1]; exact ho'.size, fun k hk h1 h2 => (ho'.block k (by rw [hW1]; exact hk) h1 (by rw [hbuf]; exact h2)).trans (by rw [hW1]), fun k hk => by
          rcases ho'.buf k hk with h1 | h1
          · exact .inl (by rw [← hbuf]; exact h1)
          · exact .inr (by rw [← hW1]; exact h1)⟩
        obtain ⟨q1, q2⟩ := hput w' _ ho hb'
        rw [hkpv, cutOf_within, mid_step he hx] at q1
        have hs' := q2.size
        refine ⟨rfl, ⟨ext G wr w', q1, fun k hk => ?_⟩, ?_⟩
        · rcases hk with hk | hk
          · obtain ⟨h1, h2⟩ := hG k hk
            exact ⟨h1, by omega⟩
          · exact ⟨.inr (by omega), hk.2⟩
        · exact ⟨q2.os.trans hkp.os, q2.tape.trans hkp.tape, q2.output.trans hkp.output, by omega, fun k hk hne => (q2.block k (by omega) (fun e => by
            rcases (hG k e).1 with h1 | h1
            · exact hne h1
            · omega)).trans (hkp.block k hk hne)⟩)
      subst hag
      have hla := hl1 wr.drew rfl
      have hlb := hl2 wr.drew rfl
      have b1 : decide ((j : Int) < (L : Int)) = true := by simp; omega
      have i1 : (0 : Int) ≤ (j : Int) := by omega
      have i2 : (j : Int) < (L : Int) := by omega
      obtain ⟨M, hM⟩ : ∃ M : Nat, M = i + 1 := ⟨_, rfl⟩
      rw [← hM] at hla hlb
      clear hps hG hkp hsr he hmem hx hbx hl1 hl2 hput hcell3 hgl hgb hrow hbod hkpv hM
      go_wp2_with fail
      go_region_with (first
        | (go_at_call 51; refine (HCO.out _ ?_).mono ?_; rfl; rintro e w' ⟨rfl, hw'⟩; subst w')
        | (go_at_call 50; refine (HBC.out _ ?_ ?_ ?_ ?_).mono ?_; rfl; rfl; rfl; rfl; rintro e w4 ⟨rfl, HR4⟩))
      all_goals
        go_wp2
        exact ⟨⟨j + 1, rfl, by omega, HR4.out.1, HR4.out.2⟩, by simp [intOf]; omega⟩
    · obtain rfl : j = L := by omega
      have b1 : decide ((j : Int) < (j : Int)) = false := by simp
      have HR : Hid (PDid PSx F p (st.crash n cuts) w wr) := by
        rw [HCR.out, ← HL.out]
        refine ⟨psx_mono hps fun k hk => ?_, HPD.out.2.then ((Kp.of_below H3.out.2).trans hkp)⟩
        obtain ⟨h1, h2⟩ := hG k hk
        rcases h1 with (h1 | h1) | h1
        · exact .inl h1
        · exact .inr ⟨h1.1, h2⟩
        · exact .inr ⟨by omega, h2⟩
      clear hps hG hkp hsr
      go_wp2
      go_end0
      exact ⟨rfl, HR.out⟩
theorem crash_p (F : Nat → Prop) (p : Nat) (st : St) (n : Int) (cv : Value) (cuts : List Int) (w : World) (h : PSx F p st w) (hw : Wf st) (hcut : RowI w cv cuts) (hcF : cuts ≠ [] → ∀ k, cv.ownBlock = some k → ¬ F k) (hcl : cuts.length ≤ 4194304) :
    Calls Try.prog 34 #[.pointer (some ⟨p, 0, none⟩), .int .i64 n, cv] w fun e w' => e = .returned (.tuple #[]) ∧ PDid PSx F p (st.crash n cuts) w w' :=
  (crash_q (fun k => F k ∧ k < w.heap.size) p st n cv cuts w (psx_small h) hw hcut (fun h1 k h2 h3 => hcF h1 k h2 h3.1) hcl fun k hk => hk.2).mono fun e w' h => ⟨h.1, pdid_wide h.2 fun k hk => hk.1⟩
end Go.Proofs.Ytodjgbmfmpbkjab
