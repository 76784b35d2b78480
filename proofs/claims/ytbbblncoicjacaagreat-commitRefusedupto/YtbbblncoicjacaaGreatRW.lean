
-- CommitRefused's walk.
import Derived.Test.YtbbblncoicjacaaGreatOW
import Derived.Test.YtbbblncoicjacaaGreatXR
namespace Go.Proofs.YtbbblncoicjacaaGreat
open Go.ChangeShapes Go.WideShapes Go.ChangeAt Go.RowKit
set_option linter.unusedVariables false
set_option linter.unusedSimpArgs false
set_option maxRecDepth 100000
variable {PS : (Nat → Prop) → Nat → St → World → Prop}
def fltL (f : Flt) : List Value := [.int .i64 f.at_, .int .i64 f.kind, .int .i64 f.n]
theorem fltL_len (f : Flt) : (fltL f).length = 3 := rfl
theorem fltL_one : ∀ f, ∀ u ∈ fltL f, u.oneCell' = true := by
  intro x u hu
  simp only [fltL, List.mem_cons, List.not_mem_nil, or_false] at hu
  rcases hu with rfl | rfl | rfl <;> rfl
def OwnP (B : Nat) (w : World) (v : Value) (L : List Flt) : Prop := w.ownsRow B 36 3 v L.length (L.flatMap fltL)
theorem ownP_nil (B : Nat) (w : World) : OwnP B w (.slice none 0 0) [] := ⟨rfl, .inl ⟨rfl, rfl⟩⟩
theorem infoFlt16 : (Tryz.prog.info? 36).map (fun i => (i.zero, i.size, i.bytes)) = some (some (.agg #[.int .i64 0, .int .i64 0, .int .i64 0]), 3, 24) := by kernel_rfl
theorem OwnP.rowp {B : Nat} {w : World} {v : Value} {l : List Flt} (h : OwnP B w v l) : RowP w v l := by
  rcases h.2 with ⟨rfl, h0⟩ | ⟨g, cap, cur, rfl, hg, hh, hn, hm, hs, ht⟩
  · exact .inl ⟨List.eq_nil_of_length_eq_zero h0, _, _, rfl⟩
  · refine .inr ⟨g, 0, cap, rfl, (Array.getElem?_eq_some_iff.1 hh).1, fun j f hj => ?_⟩
    have hjl := (List.getElem?_eq_some_iff.1 hj).1
    have key : ∀ m u, m < 3 → (fltL f)[m]? = some u → w.cell? ⟨g, 0 + j * 3 + m, none⟩ = some u := fun m u hm3 hu => by
      rw [Nat.zero_add]
      refine cell_rowK hh _ u ?_
      have := flatG_get fltL_len l j m f hj hm3
      rw [hu, ← ht, List.getElem?_take_of_lt (by omega), Array.getElem?_toList] at this
      exact this
    exact ⟨key 0 _ (by decide) rfl, key 1 _ (by decide) rfl, key 2 _ (by decide) rfl⟩
theorem OwnP.low {B : Nat} {w : World} {v : Value} {l : List Flt} (h : OwnP B w v l) : ∀ k, v.ownBlock = some k → B ≤ k := fun k hk => by
  rcases h.2 with ⟨rfl, h0⟩ | ⟨g, cap, cur, rfl, hg, _⟩
  · simp [Value.ownBlock] at hk
  · simp only [Value.ownBlock, Option.some.injEq] at hk; omega
/-- A fault more at the end of a row of one's own. -/
theorem wpP_one {ops : Array Oper} {rest : List Oper} {o : Oper} {a : Act} {W : World} {Q : Exit → Act → World → Prop} (hgd : o.guard = none) (x y : Operand) (ho : o.op = .call { callee := .builtin .append, args := #[x, y], argTypes := #[27, 27] })
    (A : World) (B : Nat) (v : Value) (L : List Flt) (p k n : Int) (hx : a.eval x = v) (hy : a.eval y = .slice (some ⟨W.heap.size, 0, none⟩) 1 1) (hO : OwnP B W v L) (hl : L.length ≤ 67108864) (hA : B ≤ A.heap.size) (hB : Below B A W)
    (h : ∀ v' w', OwnP B w' v' (L ++ [⟨p, k, n⟩]) → Below B A w' → wpList Tryz.prog ops Q rest (a.put o.dst v') w') : wpList Tryz.prog ops Q (o :: rest) a (W.alloc (.cells #[.int .i64 p, .int .i64 k, .int .i64 n] 36)) := by
  obtain ⟨i0, hi, hz0, hz1, hz2⟩ := info_parts16 infoFlt16
  have hBW : B ≤ W.heap.size := Nat.le_trans hA hB.size
  have hO2 : (W.alloc (.cells #[.int .i64 p, .int .i64 k, .int .i64 n] 36)).ownsRow B 36 3 v L.length (L.flatMap fltL) := own_upK hO _
  refine wpList_append_own _ hgd x y 27 ho B 36 i0 _ 3 24 Tryz.underlying27 hi hz0 hz1 hz2 rfl (by decide) v L.length (L.flatMap fltL) hx hO2 ⟨W.heap.size, 0, none⟩ 1 1 [.int .i64 p, .int .i64 k, .int .i64 n] hy rfl (new_rowK W #[.int .i64 p, .int .i64 k, .int .i64 n] 36 [.int .i64 p, .int .i64 k, .int .i64 n] rfl) (fltL_one ⟨p, k, n⟩) (by unfold maxLen; omega) (by omega) (by rw [World.size_alloc]; omega) ?_
  intro v' w' o1 g1 _
  refine h v' w' ?_ ?_
  · unfold OwnP
    rw [List.length_append, List.flatMap_append]
    exact o1
  · exact below_grow (hB.alloc hBW _) g1 hO2 hA
def firstIo (F : List Flt) : Bool := match F with | f :: _ => decide (f.at_ = 1) && decide (f.kind = 1) | [] => false
theorem firstIo_is {F : List Flt} (h : firstIo F = true) : ∃ f r, F = f :: r ∧ f.at_ = 1 ∧ f.kind = 1 := by
  cases F with
  | nil => cases h
  | cons f r =>
    simp only [firstIo, Bool.and_eq_true, decide_eq_true_eq] at h
    exact ⟨f, r, rfl, h⟩
def calms (p : List Flt) : List Flt := p.filter fun f => decide (f.kind ≠ 3)
theorem calms_no (p : List Flt) : noCut (calms p) := fun f hf => by simpa using (List.mem_filter.1 hf).2
theorem calms_take (p : List Flt) (k : Nat) (f : Flt) (h : p[k]? = some f) : calms (p.take (k + 1)) = calms (p.take k) ++ (if f.kind = 3 then [] else [f]) := by
  unfold calms
  rw [List.take_add_one, h, List.filter_append]
  by_cases hx : f.kind = 3 <;> simp [hx]
theorem calms_len (p : List Flt) : (calms p).length ≤ p.length := List.length_filter_le _ _
set_option maxHeartbeats 16000000 in
theorem refused_w (C : PC PS) (c : Int) (fv : Value) (l : List Fil) (nm : ByteArray) (m0 m1 m2 m3 : Int) (da : ByteArray) (pv : Value) (plan : List Flt) (n : Int) (cv : Value) (cuts : List Int) (w : World)
    (hf : RowF w fv l) (hl : 3 * l.length ≤ 1048576) (hz : sizeF l ≤ 1048576) (hda : da.size ≤ 1048576) (hnm : nm.size ≤ 1048576)
    (hp : RowP w pv plan) (hpb : plan ≠ [] → ∀ k, pv.ownBlock = some k → k < w.heap.size) (hpl : plan.length ≤ 1048576)
    (hc : RowI w cv cuts) (hcb : cuts ≠ [] → ∀ k, cv.ownBlock = some k → k < w.heap.size) (hcl : cuts.length ≤ 1048576) :
    Calls Tryz.prog 3 #[.int .i64 c, fv, .agg #[.string nm, .int .i64 m0, .int .i64 m1, .int .i64 m2, .int .i64 m3, .string da], pv, .int .i64 n, cv] w fun e w' => e = .returned (.bool true) ∧ Below w.heap.size w w' := by
  obtain ⟨X, hX⟩ : ∃ X, X = xBox nm m0 m1 m2 m3 da := ⟨_, rfl⟩
  have hbA : Below w.heap.size w (w.alloc X) := (Below.refl _ w).alloc (Nat.le_refl _) X
  have hsA : (w.alloc X).heap.size = w.heap.size + 1 := by simp
  have hfA := hf.on hbA
  obtain ⟨fa, fc, hfv⟩ := form_row hf
  obtain ⟨pa, pc, hpv⟩ := hp.form
  by_cases hcc : c < 0 ∨ 1073741824 < c
  case pos =>
    have HSC : Hid (Calls Tryz.prog 7 #[.int .i64 c, fv] (w.alloc X) fun e w' => e = .returned (.pointer none) ∧ Below w.heap.size w w') := by
      refine (scene_no C c fv l (w.alloc X) hcc hfA).mono ?_
      rintro e w' ⟨rfl, hb⟩
      exact ⟨rfl, hbA.trans (hb.mono (by omega))⟩
    have HG : Hid (∀ W, Calls Tryz.prog 8 #[.int .i64 c] W fun e w' => e = .returned (.bool false) ∧ w' = W) := fun W => by
      refine (good_c c W).mono ?_
      rintro e w' ⟨rfl, rfl⟩
      exact ⟨by rw [decide_eq_false (by omega)], rfl⟩
    obtain ⟨ca, cl, cc, hcv⟩ : ∃ a b d, cv = .slice a b d := by
      rcases hc with ⟨_, a, b, h⟩ | ⟨b, off, cap, h, _⟩ <;> exact ⟨_, _, _, h⟩
    subst hfv; subst hpv; subst hcv
    unfold xBox at hX
    subst hX
    clear hf hfA hp hc hcc hbA hsA
    go_enter Tryz.func3, Tryz.ntmps3
    go_wp2_with (first
      | (go_at_call 7; refine HSC.out.mono ?_; rintro e w1 ⟨rfl, hb1⟩)
      | (go_at_call 8; refine (HG.out _).mono ?_; rintro e w2 ⟨rfl, hw2⟩; subst w2))
    go_ret
    exact ⟨rfl, hb1⟩
  case neg =>
    obtain ⟨cn, rfl⟩ := Int.eq_ofNat_of_zero_le (show 0 ≤ c by omega)
    have hcn : cn ≤ 1073741824 := by omega
    obtain ⟨s, L, hS⟩ := is_scene cn hcn l (by omega)
    have hVF := Vf.scene cn hcn l (by omega)
    rw [hS.eq] at hVF
    have hsb : s.bodies.length < 2097151 := by have : s.bodies.length ≤ _ := hVF.bodies; omega
    obtain ⟨F, hFe⟩ : ∃ F, F = calms plan := ⟨_, rfl⟩
    obtain ⟨E, v2, g1, g2, g3, g4, g5, g6, g7⟩ := refused_plain s cn L hS.sc hS.cap hsb F (by rw [hFe]; exact calms_no plan) nm da m0 m1 m2 m3 n cuts
    obtain ⟨B, hBe⟩ : ∃ B, B = w.heap.size + 1 := ⟨_, rfl⟩
    have hnP : nP da ≤ 2049 := by unfold nP; omega
    have hLl : L.length ≤ 64 := hS.few
    have hFl : F.length ≤ 1048576 := by rw [hFe]; exact Nat.le_trans (calms_len plan) hpl
    have hVF1 : Vf (⟨s, F, 0, false, 0⟩ : Vs) (3 * l.length + 1) := hVF.arm F
    have HSC : Hid (Calls Tryz.prog 7 #[.int .i64 (cn : Int), fv] (w.alloc X) fun e w' => ∃ q, e = .returned (.pointer (some ⟨q, 0, none⟩)) ∧ Lw PS B q ⟨s, [], 0, false, 0⟩ [] w' ∧ Below B (w.alloc X) w') := by
      have := lw_scene C cn fv l (w.alloc X) hcn hfA (by omega) (fun x hx => by
        have : x.2.2.size ≤ sizeF l := size_mem hx
        omega)
      rw [hS.eq, hsA, ← hBe] at this
      exact this
    have HV1 : Hid (∀ q W, Lw PS B q ⟨s, [], 0, false, 0⟩ [] W → Below B (w.alloc X) W → Calls Tryz.prog 9 #[.pointer (some ⟨q, 0, none⟩)] W fun e w' => ∃ ao cap k, e = .returned (.tuple #[.slice ao L.length cap, .bool true]) ∧ Lw PS B q ((Vs.mk s [] 0 false 0).ticks k) [(.slice ao L.length cap, L)] w' ∧ Below B W w') := fun q W hL hb => by
      refine (lw_view C B q _ [] W hL (by have := hb.size; omega) hS.sc.wf hS.sc.dw (by show 0 ≤ _; omega) ⟨rfl, rfl⟩).mono ?_
      rintro e w' ⟨rv, k, rfl, hk, h1, h2⟩
      have hrow : seen s.bodies s.now = L := hS.sc.now
      have h1' : Lw PS B q ((Vs.mk s [] 0 false 0).ticks k) [(rv, L)] w' := by rw [← hrow]; exact h1
      obtain ⟨ao, cap, hrv⟩ := form_row (h1'.row (r := (rv, L)) (by simp))
      have hrv' : rv = .slice ao L.length cap := hrv
      subst hrv'
      exact ⟨ao, cap, k, rfl, h1', h2⟩
    have HAR : Hid (∀ q k rows W0 W fv, Lw PS B q ((Vs.mk s [] 0 false 0).ticks k) rows W0 → Below B (w.alloc X) W0 → Below W0.heap.size W0 W → OwnP W0.heap.size W fv F → Calls Tryz.prog 11 #[.pointer (some ⟨q, 0, none⟩), fv] W fun e w' => e = .returned (.tuple #[]) ∧ Lw PS B q ⟨s, F, 0, false, 0⟩ rows w' ∧ Below B W w') := fun q k rows W0 W fv hL hb hb2 ho => by
      exact lw_arm2 C B q _ rows F fv W0 W hL (by have := hb.size; omega) hb2 ho.rowp (fun _ => ho.low) (by omega)
    have HRE : Hid (∀ q rows W, Lw PS B q ⟨s, F, 0, false, 0⟩ rows W → Below B (w.alloc X) W → Calls Tryz.prog 12 #[.pointer (some ⟨q, 0, none⟩), .string nm, .string da, .agg #[.int .i64 m0, .int .i64 m1, .int .i64 m2, .int .i64 m3]] W fun r w' => ∃ ev, r = .returned ev ∧ (∃ op nm, ErrIs w' B op nm E ev) ∧ Lw PS B q v2 rows w' ∧ Below B W w') := fun q rows W hL hb => by
      have := lw_repl C B q _ rows nm da m0 m1 m2 m3 W (3 * l.length + 1) hL (by have := hb.size; omega) hVF1 (by omega) (by omega)
      rw [g1] at this
      exact this
    have HCO : Hid (∀ W op nm ev, ErrIs W B op nm E ev → Calls Tryz.prog 13 #[ev] W fun r w' => r = .returned (.int .i64 E) ∧ w' = W) := fun W op nm ev h => code_c B op nm E ev W h
    have HAN : Hid (∀ q rows W, Lw PS B q v2 rows W → Below B (w.alloc X) W → Calls Tryz.prog 11 #[.pointer (some ⟨q, 0, none⟩), .slice none 0 0] W fun e w' => e = .returned (.tuple #[]) ∧ Lw PS B q (v2.arm []) rows w' ∧ Below B W w') := fun q rows W hL hb => by
      exact lw_arm C B q v2 rows [] (.slice none 0 0) W hL (by have := hb.size; omega) (.inl ⟨rfl, _, _, rfl⟩) (fun h => absurd rfl h) (by simp)
    have HDW : Hid (∀ q rows W, Lw PS B q (v2.arm []) rows W → Calls Tryz.prog 14 #[.pointer (some ⟨q, 0, none⟩)] W fun e w' => e = .returned (.bool false) ∧ w' = W) := fun q rows W hL => by
      refine (lw_down B q _ rows W hL).mono ?_
      rintro e w' ⟨rfl, rfl⟩
      exact ⟨by show Ending.returned (.bool v2.off) = _; rw [g5], rfl⟩
    have HV2 : Hid (E ≠ 0 → E ≠ 160 → ∀ q rows W, Lw PS B q (v2.arm []) rows W → Below B (w.alloc X) W → Calls Tryz.prog 9 #[.pointer (some ⟨q, 0, none⟩)] W fun e w' => ∃ ao cap k, e = .returned (.tuple #[.slice ao L.length cap, .bool true]) ∧ Lw PS B q ((v2.arm []).ticks k) ((.slice ao L.length cap, L) :: rows) w' ∧ Below B W w') := fun he0 he1 q rows W hL hb => by
      refine (lw_view C B q _ rows W hL (by have := hb.size; omega) g2 g3 (by show 0 ≤ _; omega) ⟨g5, rfl⟩).mono ?_
      rintro e w' ⟨rv, k, rfl, hk, h1, h2⟩
      have hrow : seen (v2.arm []).st.bodies (v2.arm []).st.now = L := (g7 he0 he1).1
      rw [hrow] at h1
      obtain ⟨ao, cap, hrv⟩ := form_row (h1.row (r := (rv, L)) (by simp))
      have hrv' : rv = .slice ao L.length cap := hrv
      subst hrv'
      exact ⟨ao, cap, k, rfl, h1, h2⟩
    have HRS : Hid (∀ q k rows W, Lw PS B q ((v2.arm []).ticks k) rows W → Below B (w.alloc X) W → Calls Tryz.prog 15 #[.pointer (some ⟨q, 0, none⟩), .int .i64 n, cv] W fun e w' => e = .returned (.tuple #[]) ∧ Lw PS B q (v2.restart n cuts) rows w' ∧ Below B W w') := fun q k rows W hL hb => by
      exact lw_restart C B q ((v2.arm []).ticks k) rows n cv cuts W hL (by have := hb.size; omega) g2 (by show v2.round ≤ _; omega) (RowI.on (B := w.heap.size) hc (hbA.trans (hb.mono (by omega))) hcb) (fun hne k hk => by have := hcb hne k hk; omega) (by omega)
    have HV3 : Hid (E ≠ 0 → E ≠ 160 → ∀ q rows W, Lw PS B q (v2.restart n cuts) rows W → Below B (w.alloc X) W → Calls Tryz.prog 9 #[.pointer (some ⟨q, 0, none⟩)] W fun e w' => ∃ ao cap k, e = .returned (.tuple #[.slice ao L.length cap, .bool true]) ∧ Lw PS B q ((v2.restart n cuts).ticks k) ((.slice ao L.length cap, L) :: rows) w' ∧ Below B W w') := fun he0 he1 q rows W hL hb => by
      have g8 := (g7 he0 he1).2
      refine (lw_view C B q _ rows W hL (by have := hb.size; omega) g8.wf g8.dw (by show 0 ≤ _; omega) ⟨rfl, rfl⟩).mono ?_
      rintro e w' ⟨rv, k, rfl, hk, h1, h2⟩
      have hrow : seen (v2.restart n cuts).st.bodies (v2.restart n cuts).st.now = L := g8.now
      rw [hrow] at h1
      obtain ⟨ao, cap, hrv⟩ := form_row (h1.row (r := (rv, L)) (by simp))
      have hrv' : rv = .slice ao L.length cap := hrv
      subst hrv'
      exact ⟨ao, cap, k, rfl, h1, h2⟩
    have HSA : Hid (∀ W v v', RowF W v L → RowF W v' L → Calls Tryz.prog 16 #[v, v'] W fun e w' => e = .returned (.bool true) ∧ Below W.heap.size W w') := fun W v v' h1 h2 => by
      refine (sameF_c v v' L L W h1 h2 (by omega) (by omega)).mono ?_
      rintro e w' ⟨rfl, hb⟩
      exact ⟨by simp, hb⟩
    have HSZ : Hid (∀ W v, RowF W v L → Calls Tryz.prog 10 #[v] W fun e w' => e = .returned (.int .i64 (sizeF L)) ∧ w' = W) := fun W v hr => size_c v L W hr (by omega) (by have := hS.size; omega)
    have HXB : Hid (∀ W, Below B (w.alloc X) W → W.cell? ⟨w.heap.size, 0, none⟩ = some (.string nm) ∧ W.cell? ⟨w.heap.size, 1, none⟩ = some (.int .i64 m0) ∧ W.cell? ⟨w.heap.size, 2, none⟩ = some (.int .i64 m1) ∧ W.cell? ⟨w.heap.size, 3, none⟩ = some (.int .i64 m2) ∧ W.cell? ⟨w.heap.size, 4, none⟩ = some (.int .i64 m3) ∧ W.cell? ⟨w.heap.size, 5, none⟩ = some (.string da)) := fun W hb => by rw [hBe, hX] at hb; exact xbox_cells hb
    have HEND : Hid (∀ W, Below B (w.alloc X) W → Below w.heap.size w W) := fun W hb => hbA.trans (hb.mono (by omega))
    have HBB : Hid (∀ W, Below B (w.alloc X) W → B ≤ W.heap.size) := fun W hb => by have := hb.size; omega
    have HFACT : Hid ((musts (sizeF L) cn da F → E ≠ 0) ∧ sizeF L ≤ 1048576 ∧ da.size ≤ 1048576 ∧ cn ≤ 1073741824 ∧ plan.length ≤ 1048576 ∧ F = calms plan) := ⟨g6, by have := hS.size; omega, hda, hcn, hpl, hFe⟩
    have HPR : Hid (∀ W, Below B (w.alloc X) W → RowP W pv plan) := fun W hb => RowP.on (B := w.heap.size) hp (hbA.trans (hb.mono (by omega))) hpb
    obtain ⟨ca, cl, cc, hcv⟩ : ∃ a b d, cv = .slice a b d := by
      rcases hc with ⟨_, a, b, h⟩ | ⟨b, off, cap, h, _⟩ <;> exact ⟨_, _, _, h⟩
    obtain ⟨PL, hPL⟩ : ∃ PL, PL = plan.length := ⟨_, rfl⟩
    rw [← hPL] at hpv HFACT
    have HPL := hidK hPL
    obtain ⟨LL, hLL⟩ : ∃ LL, LL = L.length := ⟨_, rfl⟩
    rw [← hLL] at HV1 HV2 HV3
    have HLL := hidK hLL
    subst hfv; subst hpv; subst hcv
    have HXE : Hid (X = .cells #[.string nm, .int .i64 m0, .int .i64 m1, .int .i64 m2, .int .i64 m3, .string da] 26) := hX
    clear hf hfA hp hc hcc hsA hS hVF hVF1 g1 g2 g3 g4 g5 g6 g7 hLl hnP hsb hcn hz hl hBe hpb hcb hpl hcl hX hbA hPL hLL hda hnm hFl hFe
    go_enter Tryz.func3, Tryz.ntmps3
    go_upto_region 9 with (first
      | (go_at_call 7; rw [← HXE.out]; refine HSC.out.mono ?_; rintro e w1 ⟨q, rfl, hL1, hb1⟩)
      | (go_at_call 9; refine (HV1.out q _ hL1 hb1).mono ?_; rintro e w2 ⟨ao, cap, k, rfl, hL2, hb2⟩; have hB2 := hb1.trans hb2))
    obtain ⟨x0, x1, x2, x3, x4, x5⟩ := HXB.out w2 hB2
    have rL : RowF w2 (.slice ao LL cap) L := hL2.row (r := (.slice ao LL cap, L)) (by simp)
    have HRL := hidK rL
    clear HSC HV1 hL1 hb1 hb2 rL
    obtain ⟨M, hM⟩ : ∃ M : Bool, M = (decide ((cn : Int) < (sizeF L : Int) + (da.size : Int)) && decide (da ≠ ⟨#[]⟩)) := ⟨_, rfl⟩
    have HM : Hid (M = true → cn < sizeF L + da.size ∧ da ≠ ⟨#[]⟩) := fun h => by
      rw [h] at hM
      have := hM.symm
      simp only [Bool.and_eq_true, decide_eq_true_eq] at this
      exact ⟨by omega, this.2⟩
    have HMM := hidK hM
    clear hM
    go_cut [18] from 44 to 56 (fun s wx => s = .bool M ∧ ∃ W, wx = W ∧ Below w2.heap.size w2 W)
    case first =>
      obtain ⟨f1, f2, f3, f4, f5, f6⟩ := HFACT.out
      have HZ1 : Hid (∀ W, Below w2.heap.size w2 W → Calls Tryz.prog 10 #[.slice ao LL cap] W fun e w' => e = .returned (.int .i64 (sizeF L)) ∧ w' = W) := fun W hb => HSZ.out W _ (HRL.out.on hb)
      obtain ⟨z, hz⟩ : ∃ z, z = sizeF L := ⟨_, rfl⟩
      rw [← hz] at HZ1 HMM f2
      clear hz HSZ HXB HEND HBB HFACT f1 f6
      have bz : (z : Int) + (da.size : Int) ≤ 2097152 := by omega
      have bz0 : (0 : Int) ≤ (z : Int) + (da.size : Int) := by omega
      by_cases p1 : (cn : Int) < (z : Int) + (da.size : Int)
      case neg =>
        have b1 : decide ((cn : Int) < (z : Int) + (da.size : Int)) = false := decide_eq_false p1
        have HMF : Hid (M = false) := by have := HMM.out; rw [b1, Bool.false_and] at this; exact this
        go_quiet ((go_at_call 10; exact Calls.quiet_of_same (HZ1.out _ (by first | exact Below.refl _ _ | exact belDrewN (Below.refl _ _) _))))
        go_wp2
        go_meet
        case rel => exact ⟨by rw [HMF.out], _, rfl, belDrewN (Below.refl _ _) nq⟩
      case pos =>
        have b1 : decide ((cn : Int) < (z : Int) + (da.size : Int)) = true := decide_eq_true p1
        by_cases p2 : da = ⟨#[]⟩
        case pos =>
          have HMF : Hid (M = false) := by show M = false; have := HMM.out; rw [b1, p2] at this; simpa using this
          have x5' : w2.cell? ⟨w.heap.size, 5, none⟩ = some (.string ⟨#[]⟩) := by rw [x5, p2]
          subst p2
          have hz0 : ((⟨#[]⟩ : ByteArray).size : Int) = 0 := rfl
          have p1' : (cn : Int) < (z : Int) := by rw [hz0] at p1; omega
          have b1' : decide ((cn : Int) < (z : Int)) = true := decide_eq_true p1'
          have bz' : (z : Int) ≤ 2097152 := by rw [hz0] at bz; omega
          clear x5 p1 b1 bz bz0 hz0
          go_quiet ((go_at_call 10; exact Calls.quiet_of_same (HZ1.out _ (by first | exact Below.refl _ _ | exact belDrewN (Below.refl _ _) _))))
          go_wp2
          go_meet
          case rel => exact ⟨by rw [HMF.out], _, rfl, belDrewN (Below.refl _ _) nq⟩
        case neg =>
          have HMF : Hid (M = true) := by have := HMM.out; rw [b1, decide_eq_true p2] at this; exact this
          have h1 := empty_no p2
          have hl : da.toList.isEmpty = false := by
            cases h : da.toList with
            | nil => exact absurd h h1
            | cons _ _ => rfl
          have HP2 := hidK p2
          clear p2
          go_quiet ((go_at_call 10; exact Calls.quiet_of_same (HZ1.out _ (by first | exact Below.refl _ _ | exact belDrewN (Below.refl _ _) _))))
          go_wp2
          go_meet
          case rel => exact ⟨by rw [HMF.out], _, rfl, belDrewN (Below.refl _ _) nq⟩
    case rest =>
      obtain ⟨hs3, W3, hw3, hb3⟩ := hcut
      rw [hw3]
      subst hs3
      clear hw3 x0 x1 x2 x3 x4 x5 HMM
      have hL3 := hL2.below C hb3
      have hB3 := hB2.trans (hb3.mono (HBB.out _ hB2))
      have HL3 : Hid (Lw PS B q ((Vs.mk s [] 0 false 0).ticks k) [(.slice ao LL cap, L)] W3 ∧ Below B (w.alloc X) W3) := ⟨hL3, hB3⟩
      clear hL2 hB2 hb3 hL3 hB3 HRL HSZ
      go_wp2_with fail
      go_loopw [17, 19] (fun o i wx => ∃ j : Nat, i = .int .i64 j ∧ j ≤ PL ∧ OwnP W3.heap.size wx o (calms (plan.take j)) ∧ Below W3.heap.size W3 wx) (fun _ i _ => PL - (intOf i).toNat)
      case atStart => exact ⟨0, rfl, Nat.zero_le _, ownP_nil _ _, Below.refl _ _⟩
      case round =>
        obtain ⟨j, rfl, hjn, hO, hB⟩ := hrel
        obtain ⟨f1, f2, f3, f4, f5, f6⟩ := HFACT.out
        by_cases hj : j < PL
        · have kI : (j : Int) < (PL : Int) := by omega
          have k0 : (0 : Int) ≤ (j : Int) := by omega
          have hjl : j < plan.length := by have := HPL.out; omega
          obtain ⟨f, hfx⟩ : ∃ f, plan[j]? = some f := ⟨_, List.getElem?_eq_getElem hjl⟩
          have HCT := hidK (calms_take plan j f hfx)
          have hBX := HL3.out.2.trans (hB.mono (HBB.out _ HL3.out.2))
          have hrp := HPR.out wr hBX
          obtain ⟨pb, po, hpa, d0, d1, d2⟩ : ∃ pb po, pa = some ⟨pb, po, none⟩ ∧ wr.cell? ⟨pb, po + j * 3, none⟩ = some (.int .i64 f.at_) ∧ wr.cell? ⟨pb, po + j * 3 + 1, none⟩ = some (.int .i64 f.kind) ∧ wr.cell? ⟨pb, po + j * 3 + 2, none⟩ = some (.int .i64 f.n) := by
            rcases hrp with ⟨h0, _⟩ | ⟨b, off, cp, hv, hb, hc⟩
            · rw [h0] at hjl; simp at hjl
            · injection hv with h1 h2 h3
              obtain ⟨e1, e2, e3⟩ := hc j f hfx
              exact ⟨b, off, h1, e1, e2, e3⟩
          subst hpa
          have hcl : (calms (plan.take j)).length ≤ 67108864 := by
            have h1 := calms_len (plan.take j)
            have h2 : (plan.take j).length ≤ j := by rw [List.length_take]; omega
            omega
          obtain ⟨N, hN⟩ : ∃ N, N = calms (plan.take j) := ⟨_, rfl⟩
          rw [← hN] at hO hcl HCT
          obtain ⟨fa, fk, fn⟩ := f
          simp only at d0 d1 d2 HCT
          clear hfx hjl hrp hBX hN f1 f2 f3 f4 f6
          by_cases hk3 : fk = 3
          · have HH : Hid (calms (plan.take (j + 1)) = N) := by
              have := HCT.out; rw [if_pos hk3, List.append_nil] at this; exact this
            have b3 : (fk == (3 : Int)) = true := by simpa using hk3
            clear hk3 HCT
            go_wp2
            refine ⟨⟨j + 1, by go_num, by omega, ?_, hB⟩, by simp [intOf]; omega⟩
            rw [HH.out]; exact hO
          · have HH : Hid (calms (plan.take (j + 1)) = N ++ [⟨fa, fk, fn⟩]) := by
              have := HCT.out; rw [if_neg hk3] at this; exact this
            have b3 : (fk == (3 : Int)) = false := by simpa using hk3
            have HO := hidK hO
            have HBB2 := hidK hB
            clear hk3 HCT hO hB
            go_wp2_with (refine wpP_one rfl (.tmp 69) (.tmp 74) rfl W3 W3.heap.size _ N fa fk fn rfl rfl HO.out hcl (Nat.le_refl _) HBB2.out ?_; intro v' w' hO' hB')
            refine ⟨⟨j + 1, by go_num, by omega, ?_, hB'⟩, by simp [intOf]; omega⟩
            rw [HH.out]; exact hO'
        · obtain rfl : j = PL := by omega
          have hall : plan.take j = plan := by rw [HPL.out]; exact List.take_length
          rw [hall, ← f6] at hO
          have hro := hO.rowp
          have hBX := HL3.out.2.trans (hB.mono (HBB.out _ HL3.out.2))
          have HO := hidK hO
          have HB4 : Hid (Below W3.heap.size W3 wr ∧ Below B (w.alloc X) wr) := ⟨hB, hBX⟩
          have HF1 := hidK f1
          clear hO hB hBX hall f1 f2 f3 f4 f5 f6 HPR HPL
          -- the first fault
          obtain ⟨T, hT⟩ : ∃ T : Bool, T = (M || firstIo F) := ⟨_, rfl⟩
          have HT : Hid (T = true → E ≠ 0) := fun h => HF1.out (by
            rw [h] at hT
            have := hT.symm
            rw [Bool.or_eq_true] at this
            rcases this with h' | h'
            · exact .inl (HM.out h')
            · exact .inr (firstIo_is h'))
          have HTT := hidK hT
          clear hT
          go_upto_region 15 with fail
          obtain ⟨fa0, fc0, hfo⟩ : ∃ a c, u17 = .slice a F.length c := hro.form
          have HRO := hidK hro
          rw [hfo] at HRO HO
          subst hfo
          clear hro
          obtain ⟨FL, hFL⟩ : ∃ FL, FL = F.length := ⟨_, rfl⟩
          have HFL := hidK hFL
          rw [← hFL] at HRO HO ⊢
          clear hFL
          go_cut [92] from 76 to 91 (fun s wx => s = .bool (firstIo F) ∧ wx = wr)
          case first =>
            rcases hF : F with _ | ⟨⟨xa, xk, xn⟩, r⟩
            · have hz : FL = 0 := by rw [HFL.out, hF]; rfl
              subst hz
              have HF0 := hidK hF
              clear hF
              go_wp2
              go_meet
              case rel => exact ⟨by first | rfl | (rw [HF0.out]; rfl), rfl⟩
            · have hz : 0 < FL := by rw [HFL.out, hF]; simp
              have hz2 : (0 : Int) < (FL : Int) := by omega
              obtain ⟨b, off, hpa, d0, d1⟩ : ∃ b off, fa0 = some ⟨b, off, none⟩ ∧ wr.cell? ⟨b, off, none⟩ = some (.int .i64 xa) ∧ wr.cell? ⟨b, off + 1, none⟩ = some (.int .i64 xk) := by
                rcases HRO.out with ⟨h0, _⟩ | ⟨b, off, cp, hv, hb, hc⟩
                · rw [hF] at h0; cases h0
                · injection hv with h1 h2 h3
                  obtain ⟨e1, e2, e3⟩ := hc 0 ⟨xa, xk, xn⟩ (by rw [hF]; rfl)
                  rw [Nat.zero_mul, Nat.add_zero] at e1 e2
                  exact ⟨b, off, h1, e1, e2⟩
              subst hpa
              have HF0 : Hid (firstIo F = (decide (xa = 1) && decide (xk = 1))) := by show _ = _; rw [hF]; rfl
              clear hF hz
              by_cases q1 : xa = 1
              · have c1 : (xa == (1 : Int)) = true := by simpa using q1
                by_cases q2 : xk = 1
                · have HF1' : Hid (firstIo F = true) := by show _ = _; rw [HF0.out, decide_eq_true q1, decide_eq_true q2]; rfl
                  have c2 : (xk == (1 : Int)) = true := by simpa using q2
                  subst q1
                  subst q2
                  clear HF0
                  go_wp2
                  go_meet
                  case rel => exact ⟨by rw [HF1'.out], rfl⟩
                · have HF1' : Hid (firstIo F = false) := by show _ = _; rw [HF0.out, decide_eq_false q2, Bool.and_false]
                  have c2 : (xk == (1 : Int)) = false := by simpa using q2
                  subst q1
                  clear HF0 q2
                  go_wp2
                  go_meet
                  case rel => exact ⟨by rw [HF1'.out], rfl⟩
              · have HF1' : Hid (firstIo F = false) := by show _ = _; rw [HF0.out, decide_eq_false q1, Bool.false_and]
                have c1 : (xa == (1 : Int)) = false := by simpa using q1
                clear HF0 q1
                go_wp2
                go_meet
                case rel => exact ⟨by rw [HF1'.out], rfl⟩
          case rest =>
            obtain ⟨hs5, hw5⟩ := hcut
            rw [hw5]
            subst hs5
            clear hw5
            have HF2 : Hid (firstIo F = true → T = true) := fun h => by rw [HTT.out, h, Bool.or_true]
            have HF3 : Hid (M = true → T = true) := fun h => by rw [HTT.out, h, Bool.true_or]
            obtain ⟨I, hI⟩ : ∃ I, I = firstIo F := ⟨_, rfl⟩
            rw [← hI] at HF2
            rw [← hI]
            obtain ⟨K, hK⟩ : ∃ K : Bool, K = (if I = true then true else M) := ⟨_, rfl⟩
            have HK : Hid (K = true → E ≠ 0) := fun h => by
              rw [h] at hK
              by_cases hi : I = true
              · exact HT.out (HF2.out hi)
              · rw [if_neg hi] at hK; exact HT.out (HF3.out hK.symm)
            have HKI := hidK hK
            clear hI hK HTT HT HF2 HF3 HF1 HM
            have hA4 := HAR.out q k [(.slice ao LL cap, L)] W3 wr (.slice fa0 FL fc0) HL3.out.1 HL3.out.2 HB4.out.1 HO.out
            have HA4 := hidK hA4
            clear hA4 HO HRO HAR HFL
            cases I
            · have hKM : K = M := by have := HKI.out; simpa using this
              subst hKM
              clear HKI
              cases K
              · clear HK
                go_upto_region 18 with (go_at_call 11; refine HA4.out.mono ?_; rintro e w6 ⟨rfl, hL6, hb6⟩; have hB6 := HB4.out.2.trans hb6)
                obtain ⟨x0, x1, x2, x3, x4, x5⟩ := HXB.out w6 hB6
                go_upto_region 21 with (first
                  | (go_at_call 12; refine (HRE.out q _ _ hL6 hB6).mono ?_; rintro e w7 ⟨ev, rfl, ⟨op, enm, he7⟩, hL7, hb7⟩; have hB7 := hB6.trans hb7)
                  | (go_at_call 13; refine (HCO.out _ op enm ev he7).mono ?_; rintro e w8 ⟨rfl, hw8⟩; subst w8)
                  | (go_at_call 11; refine (HAN.out q _ _ hL7 hB7).mono ?_; rintro e w9 ⟨rfl, hL9, hb9⟩; have hB9 := hB7.trans hb9))
                clear HA4 HRE HCO HAN x0 x1 x2 x3 x4 x5 hL6 hb6 hB6 hL7 hb7 hB7 hb9 he7
                have bE : ¬ ((E : Int) < 0) := by omega
                have bE2 : decide ((E : Int) < 0) = false := decide_eq_false bE
                by_cases hE : E = 0
                · subst hE
                  go_wp2_with (go_at_call 14; refine (HDW.out q _ _ hL9).mono ?_; rintro e w10 ⟨rfl, hw10⟩; subst w10)
                  go_ret
                  exact ⟨rfl, HEND.out _ hB9⟩
                · skip
                  have bE3 : ((E : Int) == 0) = false := by simp; omega
                  by_cases h160 : E = 160
                  · subst h160
                    go_wp2_with (go_at_call 14; refine (HDW.out q _ _ hL9).mono ?_; rintro e w10 ⟨rfl, hw10⟩; subst w10)
                    go_ret
                    exact ⟨rfl, HEND.out _ hB9⟩
                  · have bE4 : ((E : Int) == 160) = false := by simp; omega
                    have HV2' := hidK (HV2.out hE h160)
                    have HV3' := hidK (HV3.out hE h160)
                    go_upto_region 26 with (first
                      | (go_at_call 14; refine (HDW.out q _ _ hL9).mono ?_; rintro e w10 ⟨rfl, hw10⟩; subst w10)
                      | (go_at_call 9; refine (HV2'.out q _ _ hL9 hB9).mono ?_; rintro e w11 ⟨ao1, cap1, k1, rfl, hL11, hb11⟩; have hB11 := hB9.trans hb11))
                    go_upto_region 28 with (first
                      | (go_at_call 15; refine (HRS.out q k1 _ _ hL11 hB11).mono ?_; rintro e w12 ⟨rfl, hL12, hb12⟩; have hB12 := hB11.trans hb12)
                      | (go_at_call 9; refine (HV3'.out q _ _ hL12 hB12).mono ?_; rintro e w13 ⟨ao2, cap2, k2, rfl, hL13, hb13⟩; have hB13 := hB12.trans hb13))
                    have r1 : RowF w13 (.slice ao1 LL cap1) L := hL13.row (r := (.slice ao1 LL cap1, L)) (by simp)
                    have r2 : RowF w13 (.slice ao2 LL cap2) L := hL13.row (r := (.slice ao2 LL cap2, L)) (by simp)
                    have r3 : RowF w13 (.slice ao LL cap) L := hL13.row (r := (.slice ao LL cap, L)) (by simp)
                    have HR3 : Hid (RowF w13 (.slice ao1 LL cap1) L ∧ RowF w13 (.slice ao2 LL cap2) L ∧ RowF w13 (.slice ao LL cap) L ∧ Below B (w.alloc X) w13) := ⟨r1, r2, r3, hB13⟩
                    clear hL9 hB9 hL11 hB11 hb11 hL12 hB12 hb12 hL13 hb13 hB13 r1 r2 r3
                    go_upto_region 29 with (go_at_call 16; refine (HSA.out _ _ _ HR3.out.1 HR3.out.2.2.1).mono ?_; rintro e w14 ⟨rfl, hb14⟩)
                    go_wp2_with (go_at_call 16; refine (HSA.out _ _ _ (HR3.out.2.1.on hb14) (HR3.out.2.2.1.on hb14)).mono ?_; rintro e w15 ⟨rfl, hb15⟩)
                    go_ret
                    have hB14 := HR3.out.2.2.2.trans (hb14.mono (HBB.out _ HR3.out.2.2.2))
                    exact ⟨rfl, HEND.out _ (hB14.trans (hb15.mono (HBB.out _ hB14)))⟩
              · have HE0 : Hid (¬ E = 0) := HK.out rfl
                clear HK
                go_upto_region 18 with (go_at_call 11; refine HA4.out.mono ?_; rintro e w6 ⟨rfl, hL6, hb6⟩; have hB6 := HB4.out.2.trans hb6)
                obtain ⟨x0, x1, x2, x3, x4, x5⟩ := HXB.out w6 hB6
                go_upto_region 21 with (first
                  | (go_at_call 12; refine (HRE.out q _ _ hL6 hB6).mono ?_; rintro e w7 ⟨ev, rfl, ⟨op, enm, he7⟩, hL7, hb7⟩; have hB7 := hB6.trans hb7)
                  | (go_at_call 13; refine (HCO.out _ op enm ev he7).mono ?_; rintro e w8 ⟨rfl, hw8⟩; subst w8)
                  | (go_at_call 11; refine (HAN.out q _ _ hL7 hB7).mono ?_; rintro e w9 ⟨rfl, hL9, hb9⟩; have hB9 := hB7.trans hb9))
                clear HA4 HRE HCO HAN x0 x1 x2 x3 x4 x5 hL6 hb6 hB6 hL7 hb7 hB7 hb9 he7
                have bE : ¬ ((E : Int) < 0) := by omega
                have bE2 : decide ((E : Int) < 0) = false := decide_eq_false bE
                have hE : ¬ E = 0 := HE0.out
                · skip
                  have bE3 : ((E : Int) == 0) = false := by simp; omega
                  by_cases h160 : E = 160
                  · subst h160
                    go_wp2_with (go_at_call 14; refine (HDW.out q _ _ hL9).mono ?_; rintro e w10 ⟨rfl, hw10⟩; subst w10)
                    go_ret
                    exact ⟨rfl, HEND.out _ hB9⟩
                  · have bE4 : ((E : Int) == 160) = false := by simp; omega
                    have HV2' := hidK (HV2.out hE h160)
                    have HV3' := hidK (HV3.out hE h160)
                    go_upto_region 26 with (first
                      | (go_at_call 14; refine (HDW.out q _ _ hL9).mono ?_; rintro e w10 ⟨rfl, hw10⟩; subst w10)
                      | (go_at_call 9; refine (HV2'.out q _ _ hL9 hB9).mono ?_; rintro e w11 ⟨ao1, cap1, k1, rfl, hL11, hb11⟩; have hB11 := hB9.trans hb11))
                    go_upto_region 28 with (first
                      | (go_at_call 15; refine (HRS.out q k1 _ _ hL11 hB11).mono ?_; rintro e w12 ⟨rfl, hL12, hb12⟩; have hB12 := hB11.trans hb12)
                      | (go_at_call 9; refine (HV3'.out q _ _ hL12 hB12).mono ?_; rintro e w13 ⟨ao2, cap2, k2, rfl, hL13, hb13⟩; have hB13 := hB12.trans hb13))
                    have r1 : RowF w13 (.slice ao1 LL cap1) L := hL13.row (r := (.slice ao1 LL cap1, L)) (by simp)
                    have r2 : RowF w13 (.slice ao2 LL cap2) L := hL13.row (r := (.slice ao2 LL cap2, L)) (by simp)
                    have r3 : RowF w13 (.slice ao LL cap) L := hL13.row (r := (.slice ao LL cap, L)) (by simp)
                    have HR3 : Hid (RowF w13 (.slice ao1 LL cap1) L ∧ RowF w13 (.slice ao2 LL cap2) L ∧ RowF w13 (.slice ao LL cap) L ∧ Below B (w.alloc X) w13) := ⟨r1, r2, r3, hB13⟩
                    clear hL9 hB9 hL11 hB11 hb11 hL12 hB12 hb12 hL13 hb13 hB13 r1 r2 r3
                    go_upto_region 29 with (go_at_call 16; refine (HSA.out _ _ _ HR3.out.1 HR3.out.2.2.1).mono ?_; rintro e w14 ⟨rfl, hb14⟩)
                    go_wp2_with (go_at_call 16; refine (HSA.out _ _ _ (HR3.out.2.1.on hb14) (HR3.out.2.2.1.on hb14)).mono ?_; rintro e w15 ⟨rfl, hb15⟩)
                    go_ret
                    have hB14 := HR3.out.2.2.2.trans (hb14.mono (HBB.out _ HR3.out.2.2.2))
                    exact ⟨rfl, HEND.out _ (hB14.trans (hb15.mono (HBB.out _ hB14)))⟩
            · have hKM : K = true := by have := HKI.out; simpa using this
              have HE0 : Hid (¬ E = 0) := HK.out hKM
              clear HKI HK hKM
              go_upto_region 18 with (go_at_call 11; refine HA4.out.mono ?_; rintro e w6 ⟨rfl, hL6, hb6⟩; have hB6 := HB4.out.2.trans hb6)
              obtain ⟨x0, x1, x2, x3, x4, x5⟩ := HXB.out w6 hB6
              go_upto_region 21 with (first
                | (go_at_call 12; refine (HRE.out q _ _ hL6 hB6).mono ?_; rintro e w7 ⟨ev, rfl, ⟨op, enm, he7⟩, hL7, hb7⟩; have hB7 := hB6.trans hb7)
                | (go_at_call 13; refine (HCO.out _ op enm ev he7).mono ?_; rintro e w8 ⟨rfl, hw8⟩; subst w8)
                | (go_at_call 11; refine (HAN.out q _ _ hL7 hB7).mono ?_; rintro e w9 ⟨rfl, hL9, hb9⟩; have hB9 := hB7.trans hb9))
              clear HA4 HRE HCO HAN x0 x1 x2 x3 x4 x5 hL6 hb6 hB6 hL7 hb7 hB7 hb9 he7
              have bE : ¬ ((E : Int) < 0) := by omega
              have bE2 : decide ((E : Int) < 0) = false := decide_eq_false bE
              have hE : ¬ E = 0 := HE0.out
              · skip
                have bE3 : ((E : Int) == 0) = false := by simp; omega
                by_cases h160 : E = 160
                · subst h160
                  go_wp2_with (go_at_call 14; refine (HDW.out q _ _ hL9).mono ?_; rintro e w10 ⟨rfl, hw10⟩; subst w10)
                  go_ret
                  exact ⟨rfl, HEND.out _ hB9⟩
                · have bE4 : ((E : Int) == 160) = false := by simp; omega
                  have HV2' := hidK (HV2.out hE h160)
                  have HV3' := hidK (HV3.out hE h160)
                  go_upto_region 26 with (first
                    | (go_at_call 14; refine (HDW.out q _ _ hL9).mono ?_; rintro e w10 ⟨rfl, hw10⟩; subst w10)
                    | (go_at_call 9; refine (HV2'.out q _ _ hL9 hB9).mono ?_; rintro e w11 ⟨ao1, cap1, k1, rfl, hL11, hb11⟩; have hB11 := hB9.trans hb11))
                  go_upto_region 28 with (first
                    | (go_at_call 15; refine (HRS.out q k1 _ _ hL11 hB11).mono ?_; rintro e w12 ⟨rfl, hL12, hb12⟩; have hB12 := hB11.trans hb12)
                    | (go_at_call 9; refine (HV3'.out q _ _ hL12 hB12).mono ?_; rintro e w13 ⟨ao2, cap2, k2, rfl, hL13, hb13⟩; have hB13 := hB12.trans hb13))
                  have r1 : RowF w13 (.slice ao1 LL cap1) L := hL13.row (r := (.slice ao1 LL cap1, L)) (by simp)
                  have r2 : RowF w13 (.slice ao2 LL cap2) L := hL13.row (r := (.slice ao2 LL cap2, L)) (by simp)
                  have r3 : RowF w13 (.slice ao LL cap) L := hL13.row (r := (.slice ao LL cap, L)) (by simp)
                  have HR3 : Hid (RowF w13 (.slice ao1 LL cap1) L ∧ RowF w13 (.slice ao2 LL cap2) L ∧ RowF w13 (.slice ao LL cap) L ∧ Below B (w.alloc X) w13) := ⟨r1, r2, r3, hB13⟩
                  clear hL9 hB9 hL11 hB11 hb11 hL12 hB12 hb12 hL13 hb13 hB13 r1 r2 r3
                  go_upto_region 29 with (go_at_call 16; refine (HSA.out _ _ _ HR3.out.1 HR3.out.2.2.1).mono ?_; rintro e w14 ⟨rfl, hb14⟩)
                  go_wp2_with (go_at_call 16; refine (HSA.out _ _ _ (HR3.out.2.1.on hb14) (HR3.out.2.2.1.on hb14)).mono ?_; rintro e w15 ⟨rfl, hb15⟩)
                  go_ret
                  have hB14 := HR3.out.2.2.2.trans (hb14.mono (HBB.out _ HR3.out.2.2.2))
                  exact ⟨rfl, HEND.out _ (hB14.trans (hb15.mono (HBB.out _ hB14)))⟩
end Go.Proofs.YtbbblncoicjacaaGreat
