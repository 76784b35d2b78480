-- Find.
import Derived.Test.YtodjgbmfmpbkjabV14
namespace Go.Proofs.Ytodjgbmfmpbkjab
open Go.RowKit
set_option linter.unusedVariables false
theorem sizeInf : (Try.prog.info? 36).map (·.size) = some 6 := by kernel_rfl
def inf0 : Array Value := #[.int .i64 0, .int .i64 0, .int .i64 0, .int .i64 0, .string ⟨#[]⟩, .int .i64 0]
set_option maxHeartbeats 8000000 in
theorem find_p (F : Nat → Prop) (p : Nat) (st : St) (name : ByteArray) (w : World) (h : PSx F p st w) (hw : Wf st) :
    Calls Try.prog 12 #[.pointer (some ⟨p, 0, none⟩), .string name] w fun e w' => e = .returned (.tuple #[.agg (infoV (st.find name).1.1 (st.find name).1.2), .int .i64 (st.find name).2.1, .int .i64 (st.find name).2.2]) ∧ PSx F p st w' ∧ Kp F w w' := by
  obtain ⟨d0, cs, T, K, vd, vs, vt, vk, vp, O⟩ := psx_open h
  obtain ⟨X, hX⟩ : ∃ X, X = Obj.cells #[.int .i64 0, .int .i64 0, .int .i64 0, .int .i64 0, .string ⟨#[]⟩, .int .i64 0] 36 := ⟨_, rfl⟩
  have hbA : Below w.heap.size w (w.alloc X) := (Below.refl _ w).alloc (Nat.le_refl _) X
  have hs1 : (w.alloc X).heap.size = w.heap.size + 1 := by simp
  have HN : Hid (Calls Try.prog 24 #[.string name] (w.alloc X) fun e w' => e = .returned (.bool (okName name)) ∧ Below w.heap.size w w' ∧ w'.heap[w.heap.size]? = some (.cells #[.int .i64 0, .int .i64 0, .int .i64 0, .int .i64 0, .string ⟨#[]⟩, .int .i64 0] 36 (0, 0))) := (isName_c name (w.alloc X)).mono (by
    rintro e w' ⟨rfl, hb⟩
    refine ⟨rfl, hbA.trans (hb.mono (by omega)), ?_⟩
    rw [hb.block _ (by omega), heap_alloc_new, hX])
  have six : ∀ W : World, W.heap[w.heap.size]? = some (.cells #[.int .i64 0, .int .i64 0, .int .i64 0, .int .i64 0, .string ⟨#[]⟩, .int .i64 0] 36 (0, 0)) → W.cell? ⟨w.heap.size, 0, none⟩ = some (.int .i64 0) ∧ W.cell? ⟨w.heap.size, 1, none⟩ = some (.int .i64 0) ∧ W.cell? ⟨w.heap.size, 2, none⟩ = some (.int .i64 0) ∧ W.cell? ⟨w.heap.size, 3, none⟩ = some (.int .i64 0) ∧ W.cell? ⟨w.heap.size, 4, none⟩ = some (.string ⟨#[]⟩) ∧ W.cell? ⟨w.heap.size, 5, none⟩ = some (.int .i64 0) ∧ W.frozen? ⟨w.heap.size, 0, none⟩ = false ∧ W.frozen? ⟨w.heap.size, 1, none⟩ = false ∧ W.frozen? ⟨w.heap.size, 2, none⟩ = false ∧ W.frozen? ⟨w.heap.size, 3, none⟩ = false ∧ W.frozen? ⟨w.heap.size, 4, none⟩ = false ∧ W.frozen? ⟨w.heap.size, 5, none⟩ = false := fun W hk => by
    refine ⟨?_, ?_, ?_, ?_, ?_, ?_, Lib.frozen_of_heap hk 0, Lib.frozen_of_heap hk 1, Lib.frozen_of_heap hk 2, Lib.frozen_of_heap hk 3, Lib.frozen_of_heap hk 4, Lib.frozen_of_heap hk 5⟩ <;> (rw [Lib.cell_of_heap hk]; rfl)
  have SIX : Hid (∀ W : World, W.heap[w.heap.size]? = some (.cells #[.int .i64 0, .int .i64 0, .int .i64 0, .int .i64 0, .string ⟨#[]⟩, .int .i64 0] 36 (0, 0)) → W.cell? ⟨w.heap.size, 0, none⟩ = some (.int .i64 0) ∧ W.cell? ⟨w.heap.size, 1, none⟩ = some (.int .i64 0) ∧ W.cell? ⟨w.heap.size, 2, none⟩ = some (.int .i64 0) ∧ W.cell? ⟨w.heap.size, 3, none⟩ = some (.int .i64 0) ∧ W.cell? ⟨w.heap.size, 4, none⟩ = some (.string ⟨#[]⟩) ∧ W.cell? ⟨w.heap.size, 5, none⟩ = some (.int .i64 0) ∧ W.frozen? ⟨w.heap.size, 0, none⟩ = false ∧ W.frozen? ⟨w.heap.size, 1, none⟩ = false ∧ W.frozen? ⟨w.heap.size, 2, none⟩ = false ∧ W.frozen? ⟨w.heap.size, 3, none⟩ = false ∧ W.frozen? ⟨w.heap.size, 4, none⟩ = false ∧ W.frozen? ⟨w.heap.size, 5, none⟩ = false) := six
  have HPS : Hid (∀ W, Below w.heap.size w W → PSx F p st W ∧ Kp F w W) := fun W hb => psx_below h hb
  have HO : Hid (Open F p st w d0 cs T K vd vs vt vk vp) := O
  have hpl := blk_lt O.blk
  have HC2 : Hid (∀ W : World, Below w.heap.size w W → W.cell? ⟨p, 2, none⟩ = some vd ∧ W.cell? ⟨p, 4, none⟩ = some vt ∧ (Instr.lookup 62 vd (.string name) true).run Try.prog W = .ok (.tuple #[.int .i64 (leads st.now name), .bool (decide (leads st.now name ≠ 0))]) W) := fun W hb => by
    refine ⟨cell_below hb (disk_cells O.blk).2.2.1, cell_below hb (disk_cells O.blk).2.2.2.2.1, ?_⟩
    have := (O.maps.v.1.keep hb).sv_look true (Inv.pos hw) name
    simpa using this
  subst hX
  rcases hok : okName name with _ | _
  · have HC : Hid (st.find name = ((⟨#[]⟩, noBd), (0, 32))) := by show _ = _; unfold St.find; rw [if_pos hok]
    rw [hok] at HN
    clear h hw hok O hbA hs1 six hpl HC2
    go_enter Try.func12, Try.ntmps12
    go_wp2_with (go_at_call 24; refine HN.out.mono ?_; rintro e w1 ⟨rfl, hb1, hk1⟩; obtain ⟨s0, s1, s2, s3, s4, s5, f0, f1, f2, f3, f4, f5⟩ := SIX.out _ hk1; have HB1 : Hid (Below w.heap.size w w1 ∧ w1.heap[w.heap.size]? = some (.cells #[.int .i64 0, .int .i64 0, .int .i64 0, .int .i64 0, .string ⟨#[]⟩, .int .i64 0] 36 (0, 0))) := ⟨hb1, hk1⟩; clear hb1 hk1)
    refine bodyPost_ret (results_cell_tmp2 rfl _ _ w.heap.size _ _ _ _ rfl (six_set HB1.out.2 _ _ _ _ _ _) Try.underlying36 rfl sizeInf) rfl ?_
    rw [HC.out]
    exact ⟨rfl, HPS.out _ (six_below HB1.out.1 (Nat.le_refl _) _ _ _ _ _ _)⟩
  · rw [hok] at HN
    by_cases hz : leads st.now name = 0
    · have HC : Hid (st.find name = ((⟨#[]⟩, noBd), (0, 30))) := by
        show _ = _
        unfold St.find
        rw [if_neg (by rw [hok]; decide), if_pos hz]
      have hdz : decide (leads st.now name ≠ 0) = false := by simp [hz]
      rw [hz] at HC2
      rw [show decide ((0 : Nat) ≠ 0) = false by decide] at HC2
      clear h hw hok O hbA hs1 six hpl hz hdz
      go_enter Try.func12, Try.ntmps12
      go_wp2_with (first
        | (go_at_call 24; refine HN.out.mono ?_; rintro e w1 ⟨rfl, hb1, hk1⟩; obtain ⟨s0, s1, s2, s3, s4, s5, f0, f1, f2, f3, f4, f5⟩ := SIX.out _ hk1; obtain ⟨x2, x4, hl⟩ := HC2.out _ hb1; have HB1 : Hid (Below w.heap.size w w1 ∧ w1.heap[w.heap.size]? = some (.cells #[.int .i64 0, .int .i64 0, .int .i64 0, .int .i64 0, .string ⟨#[]⟩, .int .i64 0] 36 (0, 0))) := ⟨hb1, hk1⟩; clear hb1 hk1)
        | (at_lookup; refine wp_look _ rfl _ _ 62 true rfl _ _ _ rfl rfl hl ?_))
      refine bodyPost_ret (results_cell_tmp2 rfl _ _ w.heap.size _ _ _ _ rfl (six_set HB1.out.2 _ _ _ _ _ _) Try.underlying36 rfl sizeInf) rfl ?_
      rw [HC.out]
      exact ⟨rfl, HPS.out _ (six_below HB1.out.1 (Nat.le_refl _) _ _ _ _ _ _)⟩
    · obtain ⟨i, x, hli, hx⟩ := leads_body hw hz
      have hth : there st.now ((i + 1 : Nat) : Int) = true := by
        unfold there; rw [List.any_eq_true]
        exact ⟨_, leads_mem _ _ hz, by simp [hli]⟩
      obtain ⟨b, hin, hbx⟩ : ∃ b, (i + 1, b) ∈ T ∧ BodyAt w b x := by
        rcases body_of (p := p) O.bod O.inv hw ((i + 1 : Nat) : Int) with ⟨h1, _⟩ | ⟨j, b, y, hj, h1, h2, h3, h4, h5⟩
        · rw [hth] at h1; cases h1
        · have : j = i := by omega
          subst this
          rw [hx] at h2; cases h2
          exact ⟨b, h1, h5⟩
      have HC : Hid (st.find name = ((name, x), (i + 1, 0))) := by
        show _ = _
        unfold St.find
        rw [if_neg (by rw [hok]; decide), if_neg hz, hli, show i + 1 - 1 = i by omega, hx]; rfl
      rw [hli] at HC2
      rw [show decide ((i + 1 : Nat) ≠ 0) = true by simp] at HC2
      have HL2 : Hid (∀ W, Below w.heap.size w W → (Instr.lookup 63 vt (.int .i64 ((i + 1 : Nat) : Int)) false).run Try.prog W = .ok (.pointer (some ⟨b, 0, none⟩)) W ∧ BodyAt W b x ∧ W.cell? ⟨b, 0, none⟩ = some (.int .i64 x.date) ∧ W.cell? ⟨b, 1, none⟩ = some (.int .i64 x.uid) ∧ W.cell? ⟨b, 2, none⟩ = some (.int .i64 x.gid) ∧ W.cell? ⟨b, 3, none⟩ = some (.int .i64 x.mode)) := fun W hb => by
        have hB := hbx.below hb (Nat.le_refl _)
        obtain ⟨ad, v, hh, _⟩ := id hB
        have hl := (O.maps.v.2.2.1.keep hb).bv_look false hin
        simp only [Bool.false_eq_true, if_false] at hl
        refine ⟨hl, hB, ?_, ?_, ?_, ?_⟩ <;> (rw [Lib.cell_of_heap hh]; rfl)
      have hbne : b ≠ w.heap.size := by obtain ⟨c, hh⟩ := hbx.blk; have := blk_lt hh; omega
      clear h hw hok O hbA hs1 six hpl hz hli hx hth hin hbx
      obtain ⟨k, hk⟩ : ∃ k : Nat, k = i + 1 := ⟨_, rfl⟩
      rw [← hk] at HC2 HL2 HC
      clear hk
      go_enter Try.func12, Try.ntmps12
      go_wp2_with (first
        | (go_at_call 24; refine HN.out.mono ?_; rintro e w1 ⟨rfl, hb1, hk1⟩; obtain ⟨s0, s1, s2, s3, s4, s5, f0, f1, f2, f3, f4, f5⟩ := SIX.out _ hk1; obtain ⟨x2, x4, hl⟩ := HC2.out _ hb1; obtain ⟨hl2, hB1, y0, y1, y2, y3⟩ := HL2.out _ hb1; have HB1 : Hid (Below w.heap.size w w1 ∧ w1.heap[w.heap.size]? = some (.cells #[.int .i64 0, .int .i64 0, .int .i64 0, .int .i64 0, .string ⟨#[]⟩, .int .i64 0] 36 (0, 0))) := ⟨hb1, hk1⟩; have HBB : Hid (BodyAt w1 b x) := hB1; clear hb1 hk1 hB1)
        | (at_lookup; refine wp_look _ rfl _ _ _ _ rfl _ _ _ rfl rfl (by first | with_reducible exact hl | with_reducible exact hl2) ?_))
      have HLN : Hid (∀ W, BodyAt W b x → Calls Try.prog 28 #[.pointer (some ⟨b, 4, none⟩)] W fun e w' => e = .returned (.int .i64 x.data.size) ∧ w' = W) := fun W hW => blen_c b x W hW
      clear hl hl2 x2 x4
      go_region_with (first | (go_at_call 28; refine (HLN.out _ (by exact HBB.out)).mono ?_; rintro e w3 ⟨rfl, hw3⟩; subst w3))
      all_goals
        go_wp2
        have hk6 := six_set HB1.out.2 (.int .i64 x.date) (.int .i64 x.uid) (.int .i64 x.gid) (.int .i64 x.mode) (.string name) (.int .i64 x.data.size)
        have hb6 := six_below (B := w.heap.size) (b := w.heap.size) HB1.out.1 (Nat.le_refl _) (.int .i64 x.date) (.int .i64 x.uid) (.int .i64 x.gid) (.int .i64 x.mode) (.string name) (.int .i64 x.data.size)
        obtain ⟨W6, hW6⟩ : ∃ W, W = ((((((w1.setCell ⟨w.heap.size, 0, none⟩ (.int .i64 x.date)).setCell ⟨w.heap.size, 1, none⟩ (.int .i64 x.uid)).setCell ⟨w.heap.size, 2, none⟩ (.int .i64 x.gid)).setCell ⟨w.heap.size, 3, none⟩ (.int .i64 x.mode)).setCell ⟨w.heap.size, 4, none⟩ (.string name)).setCell ⟨w.heap.size, 5, none⟩ (.int .i64 x.data.size)) := ⟨_, rfl⟩
        rw [← hW6] at hk6 hb6
        rw [← hW6]
        clear hW6
        have hk7 : W6.drew.heap[w.heap.size]? = some (.cells (infoV name x) 36 (0, 0)) := hk6
        have hb7 : Below w.heap.size w W6.drew := hb6.drew
        obtain ⟨W7, hW7⟩ : ∃ W, W = W6.drew := ⟨_, rfl⟩
        rw [← hW7] at hk7 hb7
        rw [← hW7]
        clear hk6 hb6 hW7 HB1 HBB SIX HN HC2 HL2 HLN
        rw [HC.out]
        simp only [Act.put, List.setIfInBounds_toArray, List.set_cons_succ, List.set_cons_zero, List.getElem_toArray, List.getElem_cons_succ, List.getElem_cons_zero]
        refine bodyPost_ret (results_cell_tmp2 rfl _ _ w.heap.size _ _ _ _ rfl hk7 Try.underlying36 rfl sizeInf) rfl ?_
        exact ⟨rfl, HPS.out _ hb7⟩
end Go.Proofs.Ytodjgbmfmpbkjab
