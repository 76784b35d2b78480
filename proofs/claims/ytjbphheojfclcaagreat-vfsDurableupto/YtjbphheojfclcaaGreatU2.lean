
-- A call is counted, and meets what the plan says.
import Derived.Test.YtjbphheojfclcaaGreatU1
import Derived.Deep.RegionHeld3
import Derived.Deep.DrawnRows
namespace Go.Proofs.YtjbphheojfclcaaGreat
open Go.RowKit
set_option linter.unusedVariables false
variable {PS : (Nat → Prop) → Nat → St → World → Prop}
theorem met_kind (v : Vs) (hoff : v.off = false) (f : Flt) (hf : f = (hit v.plan ((v.cnt : Int) + 1)).getD noFlt) :
    (f.kind = 1 ∨ f.kind = 2 → v.met = (40, v.tick) ∧ v.fault = f) ∧ (f.kind = 3 → v.met = (41, v.cut) ∧ v.fault = f) ∧ (f.kind ≠ 1 → f.kind ≠ 2 → f.kind ≠ 3 → v.met = (0, v.tick) ∧ v.fault = noFlt) := by
  cases hh : hit v.plan ((v.cnt : Int) + 1) with
  | none =>
    rw [hh] at hf; simp at hf; subst hf
    refine ⟨fun h => by rcases h with h | h <;> exact absurd h (by decide), fun h => absurd h (by decide), fun _ _ _ => ?_⟩
    simp [Vs.met, Vs.fault, Vs.strikes, hoff, hh]
  | some g =>
    rw [hh] at hf; simp at hf; subst hf
    refine ⟨fun h => ?_, fun h => ?_, fun h1 h2 h3 => ?_⟩
    · have h3 : f.kind ≠ 3 := by omega
      have h4 : f.kind = 1 ∨ f.kind = 2 ∨ f.kind = 3 := by omega
      have hs : v.strikes = some f := by unfold Vs.strikes; rw [hh]; simp only [if_pos h4]
      simp [Vs.met, Vs.fault, hoff, hs, h3]
    · simp [Vs.met, Vs.fault, Vs.strikes, hoff, hh, h]
    · simp [Vs.met, Vs.fault, Vs.strikes, hoff, hh, h1, h2, h3]
theorem results_cell_tmp1 {P : Program} {fn : Func} {p u : Tmp} {ty : TypeId} (h : fn.results = #[.cell p ty, .tmp u]) (tmps : Array Value) (w : World) (g : Nat) (t : TypeId) (cs : Array Value) (fr : Nat × Nat) (d : TypeDesc)
    (hp : tmps.getD p undef = .pointer (some ⟨g, 0, none⟩)) (hg : w.heap[g]? = some (.cells cs t fr))
    (hu : P.underlying ty = some d) (hd : (match d with | .struct _ | .array _ _ => true | _ => false) = true) (hi : (P.info? ty).map (·.size) = some cs.size) :
    (results fn tmps).run P w = .ok (.tuple #[.agg cs, tmps.getD u undef]) w := by
  have hp' : tmps[p]?.getD undef = .pointer (some ⟨g, 0, none⟩) := by simpa using hp
  simp [results, h, hp', asAddr, run_loadVar_row w g t ty cs fr d hg hu hd hi]
theorem sizeFlt : (Tryz.prog.info? 52).map (·.size) = some 3 := by kernel_rfl
attribute [local go_sem ↓] Go.wp_at_zero Go.wp_at_succ
def flt0 : Obj := .cells #[.int .i64 0, .int .i64 0, .int .i64 0] 52 (0, 0)
theorem three_set {w : World} {b : Nat} {c0 c1 c2 : Value} {t : TypeId} {fr : Nat × Nat} (h : w.heap[b]? = some (.cells #[c0, c1, c2] t fr)) (v0 v1 v2 : Value) :
    (((w.setCell ⟨b, 0, none⟩ v0).setCell ⟨b, 1, none⟩ v1).setCell ⟨b, 2, none⟩ v2).heap[b]? = some (.cells #[v0, v1, v2] t fr) := by
  rw [blk_set (blk_set (blk_set h _) _) _]; rfl
set_option maxHeartbeats 4000000 in
theorem count_c (C : PC PS) (G : Nat → Prop) (q : Nat) (v : Vs) (w : World) (h : PV PS G q v w) (hn : v.cnt ≤ 4194304) :
    Calls Tryz.prog 142 #[.pointer (some ⟨q, 0, none⟩)] w fun e w' => e = .returned (.tuple #[.agg (fltV v.fault), .int .i64 v.met.1]) ∧ PV PS G q v.met.2 w' ∧ Kp G w w' := by
  obtain ⟨p, m, Fd, O⟩ := h
  obtain ⟨X, hX⟩ : ∃ X, X = Obj.cells #[.int .i64 0, .int .i64 0, .int .i64 0] 52 := ⟨_, rfl⟩
  have hbA : Below w.heap.size w (w.alloc X) := (Below.refl _ w).alloc (Nat.le_refl _) X
  have hsA : (w.alloc X).heap.size = w.heap.size + 1 := by simp
  have O0 := O.same C (w' := w.alloc X) hbA.size fun k _ hk => hbA.block k hk
  have hkA : Kp G w (w.alloc X) := Kp.of_below hbA
  have hXA : (w.alloc X).heap[w.heap.size]? = some (.cells #[.int .i64 0, .int .i64 0, .int .i64 0] 52 (0, 0)) := by rw [heap_alloc_new, hX]
  have hql := O.lt
  have HLOW : Hid (¬ G w.heap.size) := fun h => by have := O.low _ h; omega
  obtain ⟨c0, c1, c2, c3, c4, cf⟩ := O0.cells
  rcases hoff : v.off with _ | _
  · obtain ⟨T, hT⟩ : ∃ T, T = (w.setCell ⟨q, 2, none⟩ (.int .i64 ((v.cnt : Int) + 1))).alloc X := ⟨_, rfl⟩
    have O1s := O.tick C
    have hbT : Below (w.setCell ⟨q, 2, none⟩ (.int .i64 ((v.cnt : Int) + 1))).heap.size (w.setCell ⟨q, 2, none⟩ (.int .i64 ((v.cnt : Int) + 1))) T := by rw [hT]; exact (Below.refl _ _).alloc (Nat.le_refl _) X
    have hsS : (w.setCell ⟨q, 2, none⟩ (.int .i64 ((v.cnt : Int) + 1))).heap.size = w.heap.size := by simp [World.setCell]
    have O1 := O1s.1.same C (w' := T) hbT.size fun k _ hk => hbT.block k hk
    have hkT : Kp G w T := O1s.2.trans (Kp.of_below hbT)
    have hsT : T.heap.size = w.heap.size + 1 := by rw [hT]; simp [World.setCell]
    have hXT : T.heap[w.heap.size]? = some (.cells #[.int .i64 0, .int .i64 0, .int .i64 0] 52 (0, 0)) := by
      rw [hT, ← hsS, heap_alloc_new, hX]
    obtain ⟨f, hf⟩ : ∃ f, f = (hit v.plan ((v.cnt : Int) + 1)).getD noFlt := ⟨_, rfl⟩
    have HK : Hid ((f.kind = 1 ∨ f.kind = 2 → v.met = (40, v.tick) ∧ v.fault = f) ∧ (f.kind = 3 → v.met = (41, v.cut) ∧ v.fault = f) ∧ (f.kind ≠ 1 → f.kind ≠ 2 → f.kind ≠ 3 → v.met = (0, v.tick) ∧ v.fault = noFlt)) := met_kind v hoff f hf
    have keep : ∀ W, Below T.heap.size T W → W.cell? ⟨q, 1, none⟩ = some (.map m) ∧ W.cell? ⟨q, 2, none⟩ = some (.int .i64 ((v.cnt : Int) + 1)) ∧ (Instr.lookup 91 (.map m) (.int .i64 ((v.cnt : Int) + 1)) false).run Tryz.prog W = .ok (.agg #[.int .i64 f.at_, .int .i64 f.kind, .int .i64 f.n]) W ∧ Below T.heap.size T W := fun W hb => by
      have OW := O1.same C hb.size fun k _ hk => hb.block k hk
      obtain ⟨k0, k1, k2, _⟩ := OW.cells
      refine ⟨k1, k2, ?_, hb⟩
      have := OW.plan.look ((v.cnt : Int) + 1) (by omega)
      rw [hf]; exact this
    have HKEEP : Hid (∀ W, Below T.heap.size T W → W.cell? ⟨q, 1, none⟩ = some (.map m) ∧ W.cell? ⟨q, 2, none⟩ = some (.int .i64 ((v.cnt : Int) + 1)) ∧ (Instr.lookup 91 (.map m) (.int .i64 ((v.cnt : Int) + 1)) false).run Tryz.prog W = .ok (.agg #[.int .i64 f.at_, .int .i64 f.kind, .int .i64 f.n]) W ∧ Below T.heap.size T W) := keep
    have HO1 : Hid (PVo PS G q v.tick T p m Fd ∧ Kp G w T) := ⟨O1, hkT⟩
    have HXT : Hid (T.heap[w.heap.size]? = some (.cells #[.int .i64 0, .int .i64 0, .int .i64 0] 52 (0, 0)) ∧ T.heap.size = w.heap.size + 1) := ⟨hXT, hsT⟩
    have f2 := cf 2
    rw [hoff] at c3
    obtain ⟨cn, hcn⟩ : ∃ cn, cn = v.cnt := ⟨_, rfl⟩
    have HCN : Hid (cn = v.cnt) := hcn
    obtain ⟨fa, fk, fn⟩ := f
    simp only at HKEEP
    rw [← hcn] at c2 hn HKEEP hT
    have HT0 : Hid (T = (w.setCell ⟨q, 2, none⟩ (.int .i64 ((cn : Int) + 1))).alloc X) := hT
    clear hcn keep hXT hsT hXA hkA O0 O O1 O1s hbA hsA c0 c1 c4 cf hoff hbT hsS hkT hT
    clear hf
    subst hX
    go_enter Tryz.func142, Tryz.ntmps142
    go_wp2_with fail
    rw [← HT0.out]
    have hB0 : Below T.heap.size T T := Below.refl _ _
    have HKE : Hid (∀ W, Below T.heap.size T W → PVo PS G q v.tick W p m Fd ∧ Kp G w W ∧ W.heap[w.heap.size]? = some (.cells #[.int .i64 0, .int .i64 0, .int .i64 0] 52 (0, 0))) := fun W hb => ⟨HO1.out.1.same C hb.size fun k _ hk => hb.block k hk, HO1.out.2.kept hb, (hb.block _ (by have := HXT.out.2; omega)).trans HXT.out.1⟩
    go_region_held3 (fun w' => w'.cell? ⟨q, 1, none⟩ = some (.map m) ∧ w'.cell? ⟨q, 2, none⟩ = some (.int .i64 ((cn : Int) + 1)) ∧ (Instr.lookup 91 (.map m) (.int .i64 ((cn : Int) + 1)) false).run Tryz.prog w' = .ok (.agg #[.int .i64 fa, .int .i64 fk, .int .i64 fn]) w' ∧ Below T.heap.size T w') (first | assumption | exact HKEEP.out _ hB0 | exact HKEEP.out _ (Below.refl _ T).drew | exact HKEEP.out _ ((Below.refl _ T).alloc (Nat.le_refl _) _) | exact HKEEP.out _ ((Below.refl _ T).alloc (Nat.le_refl _) _).drew | exact HKEEP.out _ hSw.2.2.2.drew) (fail)
    all_goals
      obtain ⟨W, hW⟩ : ∃ W, W = (T.alloc (.cells #[.int .i64 fa, .int .i64 fk, .int .i64 fn] 52)).drew := ⟨_, rfl⟩
      rw [← hW]
      have hbW : Below T.heap.size T W := by rw [hW]; exact ((Below.refl _ T).alloc (Nat.le_refl _) _).drew
      have hWk : W.heap[T.heap.size]? = some (.cells #[.int .i64 fa, .int .i64 fk, .int .i64 fn] 52 (0, 0)) := by rw [hW]; exact heap_alloc_new _ _
      obtain ⟨OW, kW, rW⟩ := HKE.out W hbW
      have x1 : W.cell? ⟨T.heap.size, 0, none⟩ = some (.int .i64 fa) := by rw [Lib.cell_of_heap hWk]; rfl
      have x2 : W.cell? ⟨T.heap.size, 1, none⟩ = some (.int .i64 fk) := by rw [Lib.cell_of_heap hWk]; rfl
      have x3 : W.cell? ⟨T.heap.size, 2, none⟩ = some (.int .i64 fn) := by rw [Lib.cell_of_heap hWk]; rfl
      have y1 : W.cell? ⟨w.heap.size, 0, none⟩ = some (.int .i64 0) := by rw [Lib.cell_of_heap rW]; rfl
      have y2 : W.cell? ⟨w.heap.size, 1, none⟩ = some (.int .i64 0) := by rw [Lib.cell_of_heap rW]; rfl
      have y3 : W.cell? ⟨w.heap.size, 2, none⟩ = some (.int .i64 0) := by rw [Lib.cell_of_heap rW]; rfl
      have z1 := Lib.frozen_of_heap rW 0
      have z2 := Lib.frozen_of_heap rW 1
      have z3 := Lib.frozen_of_heap rW 2
      obtain ⟨_, _, _, q3, _, qf⟩ := OW.cells
      have z4 := qf 3
      have HW : Hid (PVo PS G q v.tick W p m Fd ∧ Kp G w W ∧ W.heap[w.heap.size]? = some (.cells #[.int .i64 0, .int .i64 0, .int .i64 0] 52 (0, 0))) := ⟨OW, kW, rW⟩
      clear hbW hWk OW kW rW hW qf hB0 c2 c3 f2
      have end3 : ∀ (V : World) (v' : Vs) (a b c : Value), PVo PS G q v' V p m Fd → Kp G w V → PVo PS G q v' (((V.setCell ⟨w.heap.size, 0, none⟩ a).setCell ⟨w.heap.size, 1, none⟩ b).setCell ⟨w.heap.size, 2, none⟩ c) p m Fd ∧ Kp G w (((V.setCell ⟨w.heap.size, 0, none⟩ a).setCell ⟨w.heap.size, 1, none⟩ b).setCell ⟨w.heap.size, 2, none⟩ c) := fun V v' a b c hO hK =>
        ⟨((hO.beside C HLOW.out 0 a).beside C HLOW.out 1 b).beside C HLOW.out 2 c, ((hK.set (Nat.le_refl _) 0 a).set (Nat.le_refl _) 1 b).set (Nat.le_refl _) 2 c⟩
      have HE3 : Hid (∀ (V : World) (v' : Vs) (a b c : Value), PVo PS G q v' V p m Fd → Kp G w V → PVo PS G q v' (((V.setCell ⟨w.heap.size, 0, none⟩ a).setCell ⟨w.heap.size, 1, none⟩ b).setCell ⟨w.heap.size, 2, none⟩ c) p m Fd ∧ Kp G w (((V.setCell ⟨w.heap.size, 0, none⟩ a).setCell ⟨w.heap.size, 1, none⟩ b).setCell ⟨w.heap.size, 2, none⟩ c)) := end3
      clear end3
      by_cases h1 : fk = 1
      · have HE : Hid (v.met = (40, v.tick) ∧ v.fault = ⟨fa, fk, fn⟩) := HK.out.1 (.inl h1)
        subst h1
        go_wp2
        refine bodyPost_ret (results_cell_tmp1 rfl _ _ w.heap.size _ _ _ _ rfl (three_set HW.out.2.2 _ _ _) Tryz.underlying52 rfl sizeFlt) rfl ?_
        rw [HE.out.1, HE.out.2]
        exact ⟨rfl, ⟨p, m, Fd, (HE3.out W v.tick _ _ _ HW.out.1 HW.out.2.1).1⟩, (HE3.out W v.tick _ _ _ HW.out.1 HW.out.2.1).2⟩
      · by_cases h2 : fk = 2
        · have HE : Hid (v.met = (40, v.tick) ∧ v.fault = ⟨fa, fk, fn⟩) := HK.out.1 (.inr h2)
          subst h2
          go_wp2
          refine bodyPost_ret (results_cell_tmp1 rfl _ _ w.heap.size _ _ _ _ rfl (three_set HW.out.2.2 _ _ _) Tryz.underlying52 rfl sizeFlt) rfl ?_
          rw [HE.out.1, HE.out.2]
          exact ⟨rfl, ⟨p, m, Fd, (HE3.out W v.tick _ _ _ HW.out.1 HW.out.2.1).1⟩, (HE3.out W v.tick _ _ _ HW.out.1 HW.out.2.1).2⟩
        · by_cases h3 : fk = 3
          · have HE : Hid (v.met = (41, v.cut) ∧ v.fault = ⟨fa, fk, fn⟩) := HK.out.2.1 h3
            subst h3
            have HS : Hid (PVo PS G q v.cut (W.setCell ⟨q, 3, none⟩ (.bool true)) p m Fd ∧ Kp G w (W.setCell ⟨q, 3, none⟩ (.bool true)) ∧ (W.setCell ⟨q, 3, none⟩ (.bool true)).heap[w.heap.size]? = some (.cells #[.int .i64 0, .int .i64 0, .int .i64 0] 52 (0, 0))) := by
              obtain ⟨g1, g2⟩ := HW.out.1.set C (v' := v.cut) 3 (.bool true) rfl rfl rfl
              exact ⟨g1, HW.out.2.1.trans g2, (Below.heap_setCell _ _ _ _ (by show w.heap.size ≠ q; omega)).trans HW.out.2.2⟩
            go_wp2
            refine bodyPost_ret (results_cell_tmp1 rfl _ _ w.heap.size _ _ _ _ rfl (three_set HS.out.2.2 _ _ _) Tryz.underlying52 rfl sizeFlt) rfl ?_
            rw [HE.out.1, HE.out.2]
            exact ⟨rfl, ⟨p, m, Fd, (HE3.out _ v.cut _ _ _ HS.out.1 HS.out.2.1).1⟩, (HE3.out _ v.cut _ _ _ HS.out.1 HS.out.2.1).2⟩
          · have HE : Hid (v.met = (0, v.tick) ∧ v.fault = noFlt) := HK.out.2.2 h1 h2 h3
            have b1 : (fk == (1 : Int)) = false := by simpa using h1
            have b2 : (fk == (2 : Int)) = false := by simpa using h2
            have b3 : (fk == (3 : Int)) = false := by simpa using h3
            go_wp2
            refine bodyPost_ret (results_cell_tmp1 rfl _ _ w.heap.size _ _ _ _ rfl (three_set HW.out.2.2 _ _ _) Tryz.underlying52 rfl sizeFlt) rfl ?_
            rw [HE.out.1, HE.out.2]
            exact ⟨rfl, ⟨p, m, Fd, (HE3.out W v.tick _ _ _ HW.out.1 HW.out.2.1).1⟩, (HE3.out W v.tick _ _ _ HW.out.1 HW.out.2.1).2⟩
  · have HM : Hid (v.met = (41, v) ∧ v.fault = noFlt) := ⟨met_off hoff, by simp [Vs.fault, hoff]⟩
    have HO : Hid (PVo PS G q v (w.alloc X) p m Fd ∧ Kp G w (w.alloc X) ∧ (w.alloc X).heap[w.heap.size]? = some (.cells #[.int .i64 0, .int .i64 0, .int .i64 0] 52 (0, 0))) := ⟨O0, hkA, hXA⟩
    have HE3 : Hid (∀ (V : World) (v' : Vs) (a b c : Value), PVo PS G q v' V p m Fd → Kp G w V → PVo PS G q v' (((V.setCell ⟨w.heap.size, 0, none⟩ a).setCell ⟨w.heap.size, 1, none⟩ b).setCell ⟨w.heap.size, 2, none⟩ c) p m Fd ∧ Kp G w (((V.setCell ⟨w.heap.size, 0, none⟩ a).setCell ⟨w.heap.size, 1, none⟩ b).setCell ⟨w.heap.size, 2, none⟩ c)) := fun V v' a b c hO hK =>
        ⟨((hO.beside C HLOW.out 0 a).beside C HLOW.out 1 b).beside C HLOW.out 2 c, ((hK.set (Nat.le_refl _) 0 a).set (Nat.le_refl _) 1 b).set (Nat.le_refl _) 2 c⟩
    rw [hoff] at c3
    clear O O0 c0 c1 c2 c4 cf hoff hXA hkA hbA hsA
    subst hX
    go_enter Tryz.func142, Tryz.ntmps142
    go_wp2
    refine bodyPost_ret (results_cell_tmp1 rfl _ _ w.heap.size _ _ _ _ rfl HO.out.2.2 Tryz.underlying52 rfl sizeFlt) rfl ?_
    rw [HM.out.1, HM.out.2]
    exact ⟨rfl, ⟨p, m, Fd, HO.out.1⟩, HO.out.2.1⟩
end Go.Proofs.YtjbphheojfclcaaGreat
