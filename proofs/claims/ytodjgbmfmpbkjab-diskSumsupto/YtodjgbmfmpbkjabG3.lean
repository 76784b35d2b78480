
-- All that a volume tells of its files.
import Derived.Test.YtodjgbmfmpbkjabG2
import Derived.Test.YtodjgbmfmpbkjabP2
namespace Go.Proofs.Ytodjgbmfmpbkjab
open Go.RowKit
set_option linter.unusedVariables false
variable {PS : (Nat → Prop) → Nat → St → World → Prop}
structure Fl where
  name : ByteArray
  num : Nat
  bd : Bd
def Fl.v (f : Fl) : List Value := [.int .i64 f.bd.date, .int .i64 f.bd.uid, .int .i64 f.bd.gid, .int .i64 f.bd.mode, .string f.name, .int .i64 f.bd.data.size, .int .i64 f.num, .string f.bd.data, .int .i64 (f.bd.data.size - f.bd.safe : Nat)]
def flsV (l : List Fl) : List Value := l.flatMap Fl.v
def St.files (st : St) : List Fl := st.now.map fun e => ⟨e.1, e.2, (st.bodies[e.2 - 1]?).getD noBd⟩
/-- What the calls answer at a name of the directory. -/
theorem at_file {st : St} (hw : Wf st) (hd : DW st) {k : Nat} {x : ByteArray} {y : Nat} (h : st.now[k]? = some (x, y)) : ∃ (i : Nat) (b : Bd), y = i + 1 ∧ st.bodies[i]? = some b ∧ st.find x = ((x, b), (i + 1, 0)) ∧ st.read ((i : Int) + 1) = (b.data, 0) ∧ st.loose ((i : Int) + 1) = (b.data.size - b.safe, 0) ∧ b.data.size ≤ 1073741824 ∧ b.safe ≤ b.data.size := by
  obtain ⟨i, b, rfl, hb⟩ := led_body hw h
  have hm := List.mem_of_getElem? h
  have hdn := hd.now hw
  have hpos : ∀ f ∈ st.now, f.2 ≠ 0 := fun f hf => by have := (hw.led _ (now_mem hw) f hf).1; omega
  have hl : leads st.now x = i + 1 := dw_leads hdn hm hpos
  have hok : okName x = true := hdn.name _ hm
  have ht : there st.now ((i : Int) + 1) = true := by
    unfold there
    rw [List.any_eq_true]
    exact ⟨_, hm, by simp⟩
  have ha := at_some ht hb
  refine ⟨i, b, rfl, hb, ?_, ?_, ?_, hw.bod b (List.mem_of_getElem? hb)⟩
  · unfold St.find
    rw [if_neg (by rw [hok]; decide), if_neg (by omega), hl, show i + 1 - 1 = i by omega, hb]; rfl
  · unfold St.read; rw [ha]
  · unfold St.loose; rw [ha]
theorem own_kp {w w' : World} {B : Nat} {e : TypeId} {size : Nat} {v : Value} {n : Nat} {xs : List Value} {F : Nat → Prop} (h : w.ownsRow B e size v n xs) (hk : Kp F w w') (hF : ∀ k, F k → k < B) : w'.ownsRow B e size v n xs :=
  own_keep h fun k hk' => hk.block k (h.lt k hk').2 (fun hf => by have := hF k hf; have := (h.lt k hk').1; omega)
theorem infoF : (Try.prog.info? 54).map (fun i => (i.zero, i.size, i.bytes)) = some (some (.agg #[.int .i64 0, .int .i64 0, .int .i64 0, .int .i64 0, .string ⟨#[]⟩, .int .i64 0, .int .i64 0, .string ⟨#[]⟩, .int .i64 0]), 9, 88) := by kernel_rfl
theorem nine_new (w : World) (a b c d e f g h i : Value) (t : TypeId) : ∀ j u, [a, b, c, d, e, f, g, h, i][j]? = some u → (w.alloc (.cells #[a, b, c, d, e, f, g, h, i] t)).cell? ((⟨w.heap.size, 0, none⟩ : Addr).add j) = some u := by
  intro j u hj
  match j, hj with
  | 0, hj => simp at hj; subst hj; simp [Addr.add]
  | 1, hj => simp at hj; subst hj; simp [Addr.add]
  | 2, hj => simp at hj; subst hj; simp [Addr.add]
  | 3, hj => simp at hj; subst hj; simp [Addr.add]
  | 4, hj => simp at hj; subst hj; simp [Addr.add]
  | 5, hj => simp at hj; subst hj; simp [Addr.add]
  | 6, hj => simp at hj; subst hj; simp [Addr.add]
  | 7, hj => simp at hj; subst hj; simp [Addr.add]
  | 8, hj => simp at hj; subst hj; simp [Addr.add]
theorem files_take (st : St) (k : Nat) (e : ByteArray × Nat) (h : st.now[k]? = some e) : flsV (st.files.take (k + 1)) = flsV (st.files.take k) ++ (Fl.mk e.1 e.2 ((st.bodies[e.2 - 1]?).getD noBd)).v := by
  unfold flsV
  rw [List.take_add_one]
  have : st.files[k]? = some ⟨e.1, e.2, (st.bodies[e.2 - 1]?).getD noBd⟩ := by unfold St.files; rw [List.getElem?_map, h]; rfl
  rw [this]; simp
set_option maxHeartbeats 8000000 in
theorem files_c (C : PC PS) (B : Nat) (F : Nat → Prop) (p : Nat) (st : St) (w : World) (h : One PS B F p st w) (hw : Wf st) (hd : DW st) (hB : B ≤ w.heap.size) :
    Calls Try.prog 15 #[.pointer (some ⟨p, 0, none⟩)] w fun e w' => (∃ v, e = .returned (.tuple #[v, .bool true]) ∧ w'.ownsRow w.heap.size 54 9 v st.files.length (flsV st.files)) ∧ One PS B F p st w' ∧ Below B w w' := by
  obtain ⟨i0, hi, hz0, hz1, hz2⟩ := info_parts infoF
  have HFB : Hid (∀ k, F k → k < w.heap.size) := fun k hk => (h.lo k hk).2
  have hnl := now_len hw
  obtain ⟨L, hL⟩ : ∃ L, L = st.names := ⟨_, rfl⟩
  have hLl : L.length = st.now.length := by rw [hL]; unfold St.names; simp
  obtain ⟨n, hn⟩ : ∃ n, n = L.length := ⟨_, rfl⟩
  have HNL : Hid (n = L.length ∧ n = st.now.length ∧ L = st.names) := ⟨hn, by omega, hL⟩
  have hn64 : n ≤ 64 := by omega
  have HNM : Hid (Calls Try.prog 37 #[.pointer (some ⟨p, 0, none⟩)] w fun e w' => (∃ v, e = .returned v ∧ w'.ownsRow w.heap.size 9 1 v n (strV L)) ∧ One PS B F p st w' ∧ Below B w w') := (C.names F p st w h.d hw).mono (by
    rintro e w' ⟨⟨v, rfl, ho⟩, hq⟩
    rw [← hL, ← hn] at ho
    exact ⟨⟨v, rfl, ho⟩, h.ask hB hq⟩)
  have HNU : Hid (∀ (n : Int) w, Calls Try.prog 11 #[.int .i64 n] w fun e w' => e = .returned (.int .i64 n) ∧ w' = w) := fun n w => num_c n w
  have HWD : Hid (Wf st ∧ DW st) := ⟨hw, hd⟩
  have HFI : Hid (∀ x wx, One PS B F p st wx → B ≤ wx.heap.size → Calls Try.prog 12 #[.pointer (some ⟨p, 0, none⟩), .string x] wx fun e w' => e = .returned (.tuple #[.agg (infoV (st.find x).1.1 (st.find x).1.2), .int .i64 (st.find x).2.1, .int .i64 (st.find x).2.2]) ∧ One PS B F p st w' ∧ Below B wx w' ∧ Kp F wx w') := fun x wx t hb => (C.find F p st x wx t.d hw).mono (by
    rintro e w' ⟨rfl, hq⟩; exact ⟨rfl, (t.ask hb hq).1, (t.ask hb hq).2, hq.2⟩)
  have HRE : Hid (∀ n wx, One PS B F p st wx → B ≤ wx.heap.size → Calls Try.prog 38 #[.pointer (some ⟨p, 0, none⟩), .int .i64 n] wx fun e w' => e = .returned (.tuple #[.string (st.read n).1, .int .i64 (st.read n).2]) ∧ One PS B F p st w' ∧ Below B wx w' ∧ Kp F wx w') := fun x wx t hb => (C.read F p st x wx t.d hw).mono (by
    rintro e w' ⟨rfl, hq⟩; exact ⟨rfl, (t.ask hb hq).1, (t.ask hb hq).2, hq.2⟩)
  have HLO : Hid (∀ n wx, One PS B F p st wx → B ≤ wx.heap.size → Calls Try.prog 39 #[.pointer (some ⟨p, 0, none⟩), .int .i64 n] wx fun e w' => e = .returned (.tuple #[.int .i64 (st.loose n).1, .int .i64 (st.loose n).2]) ∧ One PS B F p st w' ∧ Below B wx w' ∧ Kp F wx w') := fun x wx t hb => (C.loose F p st x wx t.d hw).mono (by
    rintro e w' ⟨rfl, hq⟩; exact ⟨rfl, (t.ask hb hq).1, (t.ask hb hq).2, hq.2⟩)
  clear h hw hd hnl hL hLl hn
  go_enter Try.func15, Try.ntmps15
  go_wp2_with (go_at_call 37; refine HNM.out.mono ?_; rintro e w1 ⟨⟨v1, rfl, ho1⟩, t1, hb1⟩; obtain ⟨ao, cp, rfl⟩ := own_shape ho1)
  have hs1 := hb1.size
  have HT1 : Hid (One PS B F p st w1 ∧ Below B w w1 ∧ w1.ownsRow w.heap.size 9 1 (.slice ao n cp) n (strV L)) := ⟨t1, hb1, ho1⟩
  clear t1 hb1 ho1
  go_loopw [5, 6] (fun o i wr => ∃ k : Nat, i = .int .i64 k ∧ k ≤ n ∧ One PS B F p st wr ∧ Below B w wr ∧ wr.ownsRow w.heap.size 9 1 (.slice ao n cp) n (strV L) ∧ wr.ownsRow w1.heap.size 54 9 o k (flsV (st.files.take k)) ∧ w1.heap.size ≤ wr.heap.size) (fun _ i _ => n - (intOf i).toNat)
  case atStart => exact ⟨0, rfl, Nat.zero_le _, HT1.out.1, HT1.out.2.1, HT1.out.2.2, World.ownsRow_nil _ _ _ _, Nat.le_refl _⟩
  case round =>
    obtain ⟨k, rfl, hkn, t, hbw, hoN, hoF, hsz⟩ := hrel
    by_cases hk : k < n
    · have hkn2 : k < st.now.length := by rw [← HNL.out.2.1]; exact hk
      have hge : st.now[k]? = some (st.now.getD k default) := getD_some _ k hkn2
      obtain ⟨x, y, hxy⟩ : ∃ x y, st.now.getD k default = (x, y) := ⟨_, _, rfl⟩
      rw [hxy] at hge
      obtain ⟨i, b, rfl, hbi, hfi, hre, hlo, hb1, hb2⟩ := at_file HWD.out.1 HWD.out.2 hge
      have hft := files_take st k _ hge
      simp only at hft
      rw [show i + 1 - 1 = i by omega, hbi] at hft
      have hcN : ∀ {wx : World}, wx.ownsRow w.heap.size 9 1 (.slice ao n cp) n (strV L) → ∃ g, ao = some ⟨g, 0, none⟩ ∧ wx.cell? ⟨g, k, none⟩ = some (.string x) := by
        intro wx ho
        rcases ho.2 with ⟨_, h0⟩ | ⟨g, cap, cur, hv, _⟩
        · omega
        · cases hv
          refine ⟨g, rfl, ?_⟩
          have := ho.cells (g := g) rfl k (.string x) (by
            unfold strV
            rw [HNL.out.2.2]
            unfold St.names
            rw [List.getElem?_map, List.getElem?_map, hge]; rfl)
          rwa [add_lit0] at this
      obtain ⟨g, rfl, c0⟩ := hcN hoN
      have HCN : Hid (∀ {wx : World}, wx.ownsRow w.heap.size 9 1 (.slice (some ⟨g, 0, none⟩) n cp) n (strV L) → wx.cell? ⟨g, k, none⟩ = some (.string x)) := by
        intro wx ho
        obtain ⟨g', hg', hc'⟩ := hcN ho
        cases hg'; exact hc'
      have HFI2 : Hid (∀ wx, One PS B F p st wx → B ≤ wx.heap.size → Calls Try.prog 12 #[.pointer (some ⟨p, 0, none⟩), .string x] wx fun e w' => e = .returned (.tuple #[.agg #[.int .i64 b.date, .int .i64 b.uid, .int .i64 b.gid, .int .i64 b.mode, .string x, .int .i64 b.data.size], .int .i64 ((i : Int) + 1), .int .i64 0]) ∧ One PS B F p st w' ∧ Below B wx w' ∧ Kp F wx w') := fun wx t hb => by
        have := HFI.out x wx t hb
        rw [hfi] at this
        exact this
      have HRE2 : Hid (∀ wx, One PS B F p st wx → B ≤ wx.heap.size → Calls Try.prog 38 #[.pointer (some ⟨p, 0, none⟩), .int .i64 ((i : Int) + 1)] wx fun e w' => e = .returned (.tuple #[.string b.data, .int .i64 0]) ∧ One PS B F p st w' ∧ Below B wx w' ∧ Kp F wx w') := fun wx t hb => by
        have := HRE.out ((i : Int) + 1) wx t hb
        rw [hre] at this
        exact this
      obtain ⟨ls, hls⟩ : ∃ l, l = b.data.size - b.safe := ⟨_, rfl⟩
      have HLO2 : Hid (∀ wx, One PS B F p st wx → B ≤ wx.heap.size → Calls Try.prog 39 #[.pointer (some ⟨p, 0, none⟩), .int .i64 ((i : Int) + 1)] wx fun e w' => e = .returned (.tuple #[.int .i64 ls, .int .i64 0]) ∧ One PS B F p st w' ∧ Below B wx w' ∧ Kp F wx w') := fun wx t hb => by
        have := HLO.out ((i : Int) + 1) wx t hb
        rw [hlo, ← hls] at this
        exact this
      have HFT : Hid (flsV (st.files.take (k + 1)) = flsV (st.files.take k) ++ [.int .i64 b.date, .int .i64 b.uid, .int .i64 b.gid, .int .i64 b.mode, .string x, .int .i64 b.data.size, .int .i64 ((i : Int) + 1), .string b.data, .int .i64 ls]) := by
        show _ = _
        rw [hft, hls]; rfl
      obtain ⟨Q, hQ⟩ : ∃ Q, Q = flsV (st.files.take k) := ⟨_, rfl⟩
      rw [← hQ] at hoF HFT
      have hbs := hbw.size
      have b1 : decide ((k : Int) < (n : Int)) = true := by simp; omega
      have i1 : (k : Int) < (n : Int) := by omega
      have i2 : (0 : Int) ≤ (k : Int) := by omega
      have b2 : (x.toList == x.toList) = true := by simp
      clear hge hxy hbi hfi hre hlo hft hls hQ hcN hb1 hb2 HFI HRE HLO
      go_wp2_with (first
        | (go_at_call 12; refine (HFI2.out _ t (by omega)).mono ?_; rintro e w2 ⟨rfl, t2, bb2, kk2⟩; have hs2 := bb2.size; have tA := t2.below C (w' := w2.alloc (.cells #[.int .i64 b.date, .int .i64 b.uid, .int .i64 b.gid, .int .i64 b.mode, .string x, .int .i64 b.data.size] 36)) ((Below.refl _ w2).alloc (Nat.le_refl _) _))
        | (go_at_call 38; refine (HRE2.out _ tA (by simp; omega)).mono ?_; rintro e w3 ⟨rfl, t3, bb3, kk3⟩; have hs3 : w2.heap.size + 1 ≤ w3.heap.size := (by have := bb3.size; simpa using this))
        | (go_at_call 39; refine (HLO2.out _ t3 (by omega)).mono ?_; rintro e w4 ⟨rfl, t4, bb4, kk4⟩; have hs4 := bb4.size))
      have hFw : ∀ k, F k → k < w.heap.size := HFB.out
      have hFw1 : ∀ k, F k → k < w1.heap.size := fun k hk => Nat.lt_of_lt_of_le (hFw k hk) hs1
      have hoN4 : w4.ownsRow w.heap.size 9 1 (.slice (some ⟨g, 0, none⟩) n cp) n (strV L) := own_kp (own_kp ((own_kp hoN kk2 hFw).alloc _) kk3 hFw) kk4 hFw
      have hoF4 : w4.ownsRow w1.heap.size 54 9 u5 k Q := own_kp (own_kp ((own_kp hoF kk2 hFw1).alloc _) kk3 hFw1) kk4 hFw1
      have hbx : w4.heap[w2.heap.size]? = some (.cells #[.int .i64 b.date, .int .i64 b.uid, .int .i64 b.gid, .int .i64 b.mode, .string x, .int .i64 b.data.size] 36) := by
        rw [kk4.block w2.heap.size (by omega) (fun h' => by have := hFw _ h'; omega), kk3.block w2.heap.size (by simp) (fun h' => by have := hFw _ h'; omega), heap_alloc_new]
      have y0 : w4.cell? ⟨w2.heap.size, 0, none⟩ = some (.int .i64 b.date) := by rw [Lib.cell_of_heap hbx]; rfl
      have y1 : w4.cell? ⟨w2.heap.size, 1, none⟩ = some (.int .i64 b.uid) := by rw [Lib.cell_of_heap hbx]; rfl
      have y2 : w4.cell? ⟨w2.heap.size, 2, none⟩ = some (.int .i64 b.gid) := by rw [Lib.cell_of_heap hbx]; rfl
      have y3 : w4.cell? ⟨w2.heap.size, 3, none⟩ = some (.int .i64 b.mode) := by rw [Lib.cell_of_heap hbx]; rfl
      have y4 : w4.cell? ⟨w2.heap.size, 4, none⟩ = some (.string x) := by rw [Lib.cell_of_heap hbx]; rfl
      have y5 : w4.cell? ⟨w2.heap.size, 5, none⟩ = some (.int .i64 b.data.size) := by rw [Lib.cell_of_heap hbx]; rfl
      have cN := HCN.out hoN4
      have hbb : Below B w w4 := (((hbw.trans bb2).alloc (by omega) _).trans bb3).trans bb4
      have H0 : Hid (∀ w, Calls Try.prog 11 #[.int .i64 0] w fun e w' => e = .returned (.int .i64 0) ∧ w' = w) := fun w => num_c 0 w
      have HT4 : Hid (One PS B F p st w4 ∧ Below B w w4) := ⟨t4, hbb⟩
      clear t t2 t3 tA t4 bb2 bb3 bb4 kk2 kk3 kk4 hoN hoF hbx hbw hbb c0 HFI2 HRE2 HLO2 hFw hFw1
      go_quiet (first | (go_at_call 11; exact Calls.quiet_of_same (H0.out _)))
      go_wp2_with (at_builtin; refine wpList_append_own _ rfl _ _ 43 rfl w1.heap.size 54 i0 (.agg #[.int .i64 0, .int .i64 0, .int .i64 0, .int .i64 0, .string ⟨#[]⟩, .int .i64 0, .int .i64 0, .string ⟨#[]⟩, .int .i64 0]) 9 88 Try.underlying43 hi hz0 hz1 hz2 rfl (by decide) _ _ _ rfl (World.ownsRow.alloc (own_keep hoF4 (fun _ _ => by rw [(drewN_eq w4 nq).1])) _) ⟨w4.heap.size, 0, none⟩ 1 1 [.int .i64 b.date, .int .i64 b.uid, .int .i64 b.gid, .int .i64 b.mode, .string x, .int .i64 b.data.size, .int .i64 ((i : Int) + 1), .string b.data, .int .i64 ls] rfl rfl ?c1 (by intro u hu; simp at hu; rcases hu with rfl | rfl | rfl | rfl | rfl | rfl | rfl | rfl | rfl <;> rfl) ?c3 ?c4 ?c5 ?_)
      case c1 =>
        have e : (w4.drewN nq).heap.size = w4.heap.size := by rw [(drewN_eq w4 nq).1]
        rw [← e]; exact nine_new _ _ _ _ _ _ _ _ _ _ _
      case c3 => unfold maxLen; omega
      case c4 => omega
      case c5 =>
        have e : (w4.drewN nq).heap.size = w4.heap.size := by rw [(drewN_eq w4 nq).1]
        simp; omega
      intro v' w5 hown' hgrow _
      have hq := drewN_eq w4 nq
      have hsq : (w4.drewN nq).heap.size = w4.heap.size := by rw [hq.1]
      have hs5 : w4.heap.size + 1 ≤ w5.heap.size := by have := hgrow.size; simp at this; exact this
      have hblk : ∀ q', q' < w4.heap.size → some q' ≠ u5.ownBlock → w5.heap[q']? = w4.heap[q']? := fun q' h1 h2 => by
        rw [hgrow.block q' (by simp; omega) h2, Lib.alloc_old _ _ q' (by rw [hsq]; exact h1), hq.1]
      have hF5 : ∀ q', F q' → some q' ≠ u5.ownBlock := fun q' h1 h2 => by have := HFB.out q' h1; have := (hoF4.lt q' h2.symm).1; omega
      have t5 : One PS B F p st w5 := ⟨C.same HT4.out.1.d fun q' h1 h2 => hblk q' h2 (hF5 q' h1), fun q' h1 => by have := HT4.out.1.lo q' h1; omega⟩
      have hb5 : Below B w w5 := by
        refine HT4.out.2.trans ⟨hgrow.os.trans hq.2.1, hgrow.tape.trans hq.2.2.1, hgrow.output.trans hq.2.2.2, by omega, fun q' h1 => hblk q' (by omega) (fun h2 => by have := (hoF4.lt q' h2.symm).1; omega)⟩
      have hoN5 : w5.ownsRow w.heap.size 9 1 (.slice (some ⟨g, 0, none⟩) n cp) n (strV L) := own_keep hoN4 fun q' h1 => hblk q' (hoN4.lt q' h1).2 (fun h2 => by
        have h3 := (HT1.out.2.2.lt q' h1).2
        have h4 := (hoF4.lt q' h2.symm).1
        omega)
      have hoF5 : w5.ownsRow w1.heap.size 54 9 v' (k + 1) (flsV (st.files.take (k + 1))) := by rw [HFT.out]; exact hown'
      have HALL : Hid (One PS B F p st w5 ∧ Below B w w5 ∧ w5.ownsRow w.heap.size 9 1 (.slice (some ⟨g, 0, none⟩) n cp) n (strV L) ∧ w5.ownsRow w1.heap.size 54 9 v' (k + 1) (flsV (st.files.take (k + 1))) ∧ w1.heap.size ≤ w5.heap.size) := ⟨t5, hb5, hoN5, hoF5, by omega⟩
      clear hgrow hown' hq hsq hblk hF5 t5 hb5 hoN5 hoF5 hoN4 hoF4 y0 y1 y2 y3 y4 y5 cN
      go_wp2
      exact ⟨⟨k + 1, rfl, by omega, HALL.out⟩, by simp [intOf]; omega⟩
    · obtain rfl : k = n := by omega
      have b1 : decide ((k : Int) < (k : Int)) = false := by simp
      have HE : Hid (st.files.take k = st.files ∧ st.files.length = k) := by
        have : st.files.length = k := by unfold St.files; rw [List.length_map]; exact HNL.out.2.1.symm
        exact ⟨by rw [← this, List.take_length], this⟩
      rw [HE.out.1] at hoF
      have HF : Hid (wr.ownsRow w1.heap.size 54 9 u5 k (flsV st.files)) := hoF
      have HTT : Hid (One PS B F p st wr ∧ Below B w wr) := ⟨t, hbw⟩
      clear hoF hoN t hbw
      go_wp2
      go_ret2
      refine ⟨⟨_, rfl, ?_⟩, HTT.out⟩
      rw [HE.out.2]
      exact own_mono HF.out hs1
end Go.Proofs.Ytodjgbmfmpbkjab
