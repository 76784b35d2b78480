
-- A plan is taken: the walk.
import Derived.Test.YtjbphheojfclcaaGreatU13
import Derived.Deep.RegionHeld3
import Derived.Deep.DrawnRows
namespace Go.Proofs.YtjbphheojfclcaaGreat
open Go.RowKit
set_option linter.unusedVariables false
variable {PS : (Nat → Prop) → Nat → St → World → Prop}
attribute [local go_sem ↓] Go.wp_at_zero Go.wp_at_succ
theorem take_snoc (l : List Flt) (k : Nat) (f : Flt) (h : l[k]? = some f) : l.take (k + 1) = l.take k ++ [f] := by rw [List.take_add_one, h]; rfl
theorem makeF (w : World) : (Instr.makeMap 91 none).run Tryz.prog w = .ok (.map (some w.heap.size)) (w.alloc (.map #[] 0)) := rfl
set_option maxRecDepth 8000 in
set_option maxHeartbeats 8000000 in
theorem arm_c (C : PC PS) (G : Nat → Prop) (q : Nat) (v : Vs) (plan : List Flt) (pv : Value) (w : World) (h : PV PS G q v w) (hp : RowP w pv plan) (hpf : plan ≠ [] → ∀ k, pv.ownBlock = some k → ¬ G k) (hl : plan.length ≤ 4194304) :
    Calls Tryz.prog 39 #[.pointer (some ⟨q, 0, none⟩), pv] w fun e w' => e = .returned (.tuple #[]) ∧ VDid PS G q (v.arm plan) w w' := by
  obtain ⟨p, m, Fd, O⟩ := h
  obtain ⟨ao, cp, hv⟩ := hp.form
  obtain ⟨c0, c1, c2, c3, c4, cf⟩ := O.cells
  have hql := O.lt
  have f1 := cf 1
  have f2 := cf 2
  obtain ⟨W0, hW0⟩ : ∃ W0, W0 = ((w.setCell ⟨q, 2, none⟩ (.int .i64 0)).setCell ⟨q, 1, none⟩ (.map (some w.heap.size))).alloc (.map #[] 0) := ⟨_, rfl⟩
  have hsz : ((w.setCell ⟨q, 2, none⟩ (.int .i64 0)).setCell ⟨q, 1, none⟩ (.map (some w.heap.size))).heap.size = w.heap.size := by simp [World.setCell]
  have hb0 : Below w.heap.size ((w.setCell ⟨q, 2, none⟩ (.int .i64 0)).setCell ⟨q, 1, none⟩ (.map (some w.heap.size))) W0 := by rw [hW0]; exact (Below.refl _ _).alloc (by rw [hsz]; exact Nat.le_refl _) _
  have oth : ∀ k, k < w.heap.size → k ≠ q → W0.heap[k]? = w.heap[k]? := fun k h1 h2 => by
    rw [hb0.block k h1, Below.heap_setCell _ _ _ _ (by show k ≠ q; exact h2), Below.heap_setCell _ _ _ _ (by show k ≠ q; exact h2)]
  have A0 : Arming PS G q v w W0 p w.heap.size Fd [] := by
    refine ⟨C.same O.disk fun k h1 h2 => oth k h2 (fun e => O.nq (e ▸ h1)), O.sub, O.nq, O.own, O.low, Nat.le_refl _, ?_, ?_, ?_⟩
    · rw [hb0.block q hql, blk_set (blk_set O.blk _) _]; rfl
    · rw [hW0]
      have := MapAt.made (.int .i64) ((w.setCell ⟨q, 2, none⟩ (.int .i64 0)).setCell ⟨q, 1, none⟩ (.map (some w.heap.size)))
      rw [hsz] at this; exact this
    · refine ⟨hb0.os, hb0.tape, hb0.output, by have := hb0.size; rw [hsz] at this; exact this, fun k h1 h2 => oth k h1 (fun e => h2 (e ▸ O.own))⟩
  have HA0 : Hid (Arming PS G q v w W0 p w.heap.size Fd []) := A0
  have HF : Hid (∀ k, k < plan.length → ∃ f, plan[k]? = some f ∧ ∃ b off, ao = some ⟨b, off, none⟩ ∧ ∀ W, Kp G w W → W.cell? ⟨b, off + k * 3, none⟩ = some (.int .i64 f.at_) ∧ W.cell? ⟨b, off + k * 3 + 1, none⟩ = some (.int .i64 f.kind) ∧ W.cell? ⟨b, off + k * 3 + 2, none⟩ = some (.int .i64 f.n)) := fun k hk => by
    have hne : plan ≠ [] := fun e => by rw [e] at hk; simp at hk
    refine ⟨plan[k], List.getElem?_eq_getElem hk, ?_⟩
    rcases hp with ⟨h0, _⟩ | ⟨b, off, cap, hv', hb, hc⟩
    · exact absurd h0 hne
    · rw [hv] at hv'; cases hv'
      refine ⟨b, off, rfl, fun W hkp => ?_⟩
      have hbb := hkp.block b hb (hpf hne b (by rw [hv]; rfl))
      obtain ⟨h1, h2, h3⟩ := hc k _ (List.getElem?_eq_getElem hk)
      exact ⟨(World.cell?_of_block (a := ⟨b, _, none⟩) hbb).trans h1, (World.cell?_of_block (a := ⟨b, _, none⟩) hbb).trans h2, (World.cell?_of_block (a := ⟨b, _, none⟩) hbb).trans h3⟩
  obtain ⟨n, hn⟩ : ∃ n, n = plan.length := ⟨_, rfl⟩
  have HN : Hid (n = plan.length) := hn
  rw [← hn] at hv HF hl
  subst hv
  have HW0 : Hid (W0 = ((w.setCell ⟨q, 2, none⟩ (.int .i64 0)).setCell ⟨q, 1, none⟩ (.map (some w.heap.size))).alloc (.map #[] 0)) := hW0
  clear hp hpf O hn A0 oth hb0 hsz c0 c3 c4 cf hW0
  go_enter Tryz.func39, Tryz.ntmps39
  have mk := makeF
  go_wp2
  rw [← HW0.out]
  go_loopw [17] (fun i wr => ∃ (k : Nat) (l : Prs), i = .int .i64 k ∧ k ≤ n ∧ PlanM l (plan.take k) ∧ Arming PS G q v w wr p w.heap.size Fd l) (fun i _ => n - (intOf i).toNat)
  case atStart => exact ⟨0, [], rfl, Nat.zero_le _, PlanM.nil, HA0.out⟩
  case round =>
    obtain ⟨k, l, rfl, hkn, hpm, hA⟩ := hrel
    by_cases hk : k < n
    · obtain ⟨f, hf, b, off, rfl, hcell⟩ := HF.out k hk
      obtain ⟨e0, e1, e2⟩ := hcell wr hA.kp
      obtain ⟨fa, fk, fn⟩ := f
      simp only at e0 e1 e2
      have HFK : Hid (plan.take (k + 1) = plan.take k ++ [⟨fa, fk, fn⟩]) := take_snoc plan k _ hf
      have b1 : decide ((k : Int) < (n : Int)) = true := by simp; omega
      have i1 : (k : Int) < (n : Int) := by omega
      have i2 : (0 : Int) ≤ (k : Int) := by omega
      obtain ⟨T, hT⟩ : ∃ T, T = wr.alloc (.cells #[.int .i64 fa, .int .i64 fk, .int .i64 fn] 52) := ⟨_, rfl⟩
      have hbT : Below wr.heap.size wr T := by rw [hT]; exact (Below.refl _ wr).alloc (Nat.le_refl _) _
      have AT := hA.same C hbT
      have hTk : T.heap[wr.heap.size]? = some (.cells #[.int .i64 fa, .int .i64 fk, .int .i64 fn] 52 (0, 0)) := by rw [hT]; exact heap_alloc_new _ _
      have hTs : T.heap.size = wr.heap.size + 1 := by rw [hT]; simp
      obtain ⟨z, tk, hlook, hend⟩ : ∃ (z : Flt) (tk : Bool), (∀ W, Below T.heap.size T W → (Instr.lookup 91 (.map (some w.heap.size)) (.int .i64 fa) true).run Tryz.prog W = .ok (.tuple #[.agg (fltV z), .bool tk]) W) ∧ ((tk = true → PlanM l (plan.take (k + 1))) ∧ (tk = false → fa ≤ 0 → PlanM l (plan.take (k + 1))) ∧ (tk = false → 0 < fa → PlanM ((.int .i64 fa, .agg #[.int .i64 fa, .int .i64 fk, .int .i64 fn]) :: l) (plan.take (k + 1)) ∧ ∀ p ∈ l, p.1 ≠ .int .i64 fa)) := by
        rw [HFK.out]
        by_cases hpos : 0 < fa
        · cases hh : hit (plan.take k) fa with
          | some g => exact ⟨g, true, fun W hb => (hpm.look (AT.same C hb).map fa).1 hpos g hh, fun _ => hpm.skip _ (.inr ⟨g, hh⟩), (fun h => by cases h), fun h => by cases h⟩
          | none => exact ⟨noFlt, false, fun W hb => (hpm.look (AT.same C hb).map fa).2 (.inr hh), (fun h => by cases h), (fun _ h => by omega), fun _ h => ⟨hpm.add ⟨fa, fk, fn⟩ h hh, (hpm.inn fa h).1 hh⟩⟩
        · exact ⟨noFlt, false, fun W hb => (hpm.look (AT.same C hb).map fa).2 (.inl (by omega)), (fun h => by cases h), fun _ _ => hpm.skip _ (.inl (by show fa ≤ 0; omega)), fun _ h => absurd h hpos⟩
      obtain ⟨za, zk, zn⟩ := z
      have HK : Hid (∀ W, Below T.heap.size T W → W.cell? ⟨q, 1, none⟩ = some (.map (some w.heap.size)) ∧ W.cell? ⟨wr.heap.size, 0, none⟩ = some (.int .i64 fa) ∧ (Instr.lookup 91 (.map (some w.heap.size)) (.int .i64 fa) true).run Tryz.prog W = .ok (.tuple #[.agg #[.int .i64 za, .int .i64 zk, .int .i64 zn], .bool tk]) W ∧ Below T.heap.size T W) := fun W hb => by
        refine ⟨?_, ?_, hlook W hb, hb⟩
        · rw [Lib.cell_of_heap (AT.same C hb).blk]; rfl
        · rw [Lib.cell_of_heap ((hb.block _ (by omega)).trans hTk)]; rfl
      have HAT : Hid (Arming PS G q v w T p w.heap.size Fd l ∧ T.heap[wr.heap.size]? = some (.cells #[.int .i64 fa, .int .i64 fk, .int .i64 fn] 52 (0, 0)) ∧ wr.heap.size < T.heap.size) := ⟨AT, hTk, by omega⟩
      have HEN : Hid ((tk = true → PlanM l (plan.take (k + 1))) ∧ (tk = false → fa ≤ 0 → PlanM l (plan.take (k + 1))) ∧ (tk = false → 0 < fa → PlanM ((.int .i64 fa, .agg #[.int .i64 fa, .int .i64 fk, .int .i64 fn]) :: l) (plan.take (k + 1)) ∧ ∀ p ∈ l, p.1 ≠ .int .i64 fa)) := hend
      have HT : Hid (T = wr.alloc (.cells #[.int .i64 fa, .int .i64 fk, .int .i64 fn] 52)) := hT
      clear hpm hA hcell hf hT hbT AT hTk hTs hlook hend c1 c2 f1 f2 mk
      go_wp2_with fail
      rw [← HT.out]
      have hB0 : Below T.heap.size T T := Below.refl _ _
      go_region_held3 (fun w' => w'.cell? ⟨q, 1, none⟩ = some (.map (some w.heap.size)) ∧ w'.cell? ⟨wr.heap.size, 0, none⟩ = some (.int .i64 fa) ∧ (Instr.lookup 91 (.map (some w.heap.size)) (.int .i64 fa) true).run Tryz.prog w' = .ok (.tuple #[.agg #[.int .i64 za, .int .i64 zk, .int .i64 zn], .bool tk]) w' ∧ Below T.heap.size T w') (first | assumption | exact HK.out _ hB0 | exact HK.out _ (Below.refl _ T).drew | exact HK.out _ ((Below.refl _ T).alloc (Nat.le_refl _) _) | exact HK.out _ ((Below.refl _ T).alloc (Nat.le_refl _) _).drew | exact HK.out _ hSw.2.2.2.drew) (fail)
      all_goals
        obtain ⟨W, hW⟩ : ∃ W, W = (T.alloc (.cells #[.int .i64 za, .int .i64 zk, .int .i64 zn] 52)).drew := ⟨_, rfl⟩
        rw [← hW]
        have hbW : Below T.heap.size T W := by rw [hW]; exact ((Below.refl _ T).alloc (Nat.le_refl _) _).drew
        have AW := HAT.out.1.same C hbW
        have hWk := (hbW.block _ HAT.out.2.2).trans HAT.out.2.1
        have x0 : W.cell? ⟨wr.heap.size, 0, none⟩ = some (.int .i64 fa) := by rw [Lib.cell_of_heap hWk]; rfl
        have x1 : W.cell? ⟨wr.heap.size, 1, none⟩ = some (.int .i64 fk) := by rw [Lib.cell_of_heap hWk]; rfl
        have x2 : W.cell? ⟨wr.heap.size, 2, none⟩ = some (.int .i64 fn) := by rw [Lib.cell_of_heap hWk]; rfl
        have y1 : W.cell? ⟨q, 1, none⟩ = some (.map (some w.heap.size)) := by rw [Lib.cell_of_heap AW.blk]; rfl
        have HAW : Hid (Arming PS G q v w W p w.heap.size Fd l) := AW
        clear hW hbW AW hWk hB0 e0 e1 e2
        rcases tk with _ | _
        · by_cases hpos : 0 < fa
          · obtain ⟨hpl, hno⟩ := HEN.out.2.2 rfl hpos
            have AD : Arming PS G q v w W.drew p w.heap.size Fd l := HAW.out.same C (Below.refl _ W).drew
            obtain ⟨w5, hu5, hm5, ht5⟩ := AD.map.store_new (P := Tryz.prog) Tryz.underlying91 Tryz.underlying3 (keyI fa) hno (.agg #[.int .i64 fa, .int .i64 fk, .int .i64 fn])
            have HA5 : Hid (Arming PS G q v w w5 p w.heap.size Fd ((.int .i64 fa, .agg #[.int .i64 fa, .int .i64 fk, .int .i64 fn]) :: l) ∧ PlanM ((.int .i64 fa, .agg #[.int .i64 fa, .int .i64 fk, .int .i64 fn]) :: l) (plan.take (k + 1))) := ⟨AD.turn C hm5 ht5, hpl⟩
            have b3 : decide (0 < fa) = true := decide_eq_true hpos
            clear hpl hno AD hm5 ht5
            go_wp2_with fail
            go_region
            all_goals
              go_wp2
              exact ⟨⟨k + 1, _, rfl, by omega, HA5.out.2, HA5.out.1⟩, by simp [intOf]; omega⟩
          · have hpl := HEN.out.2.1 rfl (by omega)
            have HPL : Hid (PlanM l (plan.take (k + 1))) := hpl
            have b3 : decide (0 < fa) = false := decide_eq_false hpos
            clear hpl
            go_wp2
            exact ⟨⟨k + 1, l, rfl, by omega, HPL.out, HAW.out⟩, by simp [intOf]; omega⟩
        · have hpl := HEN.out.1 rfl
          have HPL : Hid (PlanM l (plan.take (k + 1))) := hpl
          clear hpl
          go_wp2
          exact ⟨⟨k + 1, l, rfl, by omega, HPL.out, HAW.out⟩, by simp [intOf]; omega⟩
    · obtain rfl : k = n := by omega
      have b1 : decide ((k : Int) < (k : Int)) = false := by simp
      have HR : Hid (VDid PS G q (v.arm plan) w wr) := by
        have : plan.take k = plan := by rw [HN.out, List.take_length]
        rw [this] at hpm
        exact hA.done hpm.inn
      clear hpm hA
      go_wp2
      go_returns
      exact ⟨rfl, HR.out⟩
end Go.Proofs.YtjbphheojfclcaaGreat
