import Derived.Test.YtofmiaaglbcebaaGreatDoorASz
import Derived.Test.YtofmiaaglbcebaaGreatDoorKFz
import Derived.Test.YtofmiaaglbcebaaGreatDoorKQ

-- commit.reason and commit.Load, whatever the volume answers.
namespace Go.Proofs.YtofmiaaglbcebaaGreatDoor
open Go.RowKit
set_option linter.unusedVariables false
set_option maxRecDepth 100000
variable {PS : (Nat → Prop) → Nat → St → World → Prop}
/-- errors' own variable, as it is laid. -/
def ErrT (w : World) : Prop := w.cell? ⟨0, 0, none⟩ = some (.iface 181 (.agg #[.pointer (some ⟨2, 56, none⟩)]))
theorem ErrT.below {w w' : World} {B : Nat} (h : ErrT w) (hb : Below B w w') (hB : 0 < B) : ErrT w' := by
  unfold ErrT at h ⊢
  rw [hb.cell (p := ⟨0, 0, none⟩) hB]; exact h
theorem as_told (e : Addr) (w : World) (hg : ErrT w) : Calls Tryz.prog 69 #[.iface 112 (.pointer (some e)), .iface 156 (.pointer (some ⟨w.heap.size, 0, none⟩))] (w.alloc (.cells #[.pointer none] 112)) fun ev w' => ev = .returned (.bool true) ∧ w'.cell? ⟨w.heap.size, 0, none⟩ = some (.pointer (some e)) ∧ Below w.heap.size w w' := by
  have hlt : 0 < w.heap.size := World.block_lt_of_cell? _ _ hg
  refine (as_hit e ⟨w.heap.size, 0, none⟩ (.pointer none) (w.alloc (.cells #[.pointer none] 112)) (by rw [World.cell?_alloc_lt _ _ ⟨0, 0, none⟩ hlt]; exact hg) (by simp) (by simp)).mono ?_
  rintro ev w' ⟨rfl, rfl⟩
  refine ⟨rfl, ?_, ?_⟩
  · simp [go_sem]
  · refine Below.setCell (p := ⟨w.heap.size, 0, none⟩) ?_ (show w.heap.size ≤ w.heap.size from Nat.le_refl _) _
    exact (((((Below.refl _ w).alloc (Nat.le_refl _) _).alloc (by simp) _).alloc (by simp; omega) _).alloc (by simp; omega) _).alloc (by simp; omega) _
set_option maxHeartbeats 4000000 in
theorem reason_c (B : Nat) (op nm : ByteArray) (E : Nat) (ev : Value) (w : World) (hE : E ≠ 0) (h : ErrIs w B op nm E ev) (hg : ErrT w) : Calls Tryz.prog 47 #[ev] w fun r w' => r = .returned (.int .i64 E) ∧ Below w.heap.size w w' := by
  rcases h with ⟨h0, _⟩ | ⟨h0, b, hB, rfl, hb⟩
  · exact absurd h0 hE
  · have HA := hidK (as_told ⟨b, 0, none⟩ w hg)
    have c2 : w.cell? ⟨b, 2, none⟩ = some (.int .i64 E) := by rw [Lib.cell_of_heap hb]; rfl
    have hbl := World.block_lt_of_cell? _ _ c2
    have HC : Hid (∀ W, Below w.heap.size w W → W.cell? ⟨b, 2, none⟩ = some (.int .i64 E)) := fun W hb => (hb.cell (p := ⟨b, 2, none⟩) hbl).trans c2
    clear hb h0 hE hg c2 hB hbl
    go_enter Tryz.func47, Tryz.ntmps47
    go_upto_region 3 with (go_at_call 69; refine HA.out.mono ?_; rintro e w1 ⟨rfl, h1, h2⟩)
    have c2 := HC.out w1 h2
    go_wp2
    go_ret
    exact ⟨rfl, h2⟩
set_option maxHeartbeats 4000000 in
theorem cload_c (C : PC PS) (G : Nat → Prop) (q : Nat) (v : Vs) (nm : ByteArray) (w : World) (h : PV PS G q v w) (hw : Wf v.st) (hn : v.cnt ≤ 4194304) (hg : ErrT w) (hgG : ¬ G 0) :
    Calls Tryz.prog 19 #[.pointer (some ⟨q, 0, none⟩), .string nm] w fun e w' => ∃ ev G', e = .returned (.tuple #[.string (if (v.read nm).1.2 = 0 then (v.read nm).1.1 else ⟨#[]⟩), .bool (decide ((v.read nm).1.2 = 0)), ev]) ∧ ErrIs w' w.heap.size ⟨#[114, 101, 97, 100]⟩ nm (if (v.read nm).1.2 = 30 then 0 else (v.read nm).1.2) ev ∧ Bh PS G q (v.read nm).2 w G' w' := by
  obtain ⟨⟨⟨d, E⟩, v'⟩, hr⟩ : ∃ r, r = v.read nm := ⟨_, rfl⟩
  have HRD : Hid (Calls Tryz.prog 25 #[.pointer (some ⟨q, 0, none⟩), .string nm] w fun e w' => ∃ ev, e = .returned (.tuple #[.string d, ev]) ∧ ErrIs w' w.heap.size ⟨#[114, 101, 97, 100]⟩ nm E ev ∧ (∃ G', Bh PS G q v' w G' w') ∧ ErrT w') := by
    have hlt : 0 < w.heap.size := World.block_lt_of_cell? _ _ hg
    refine (fRead_c C G q v nm w h hw hn).mono ?_
    rintro e w' ⟨ev, rfl, he, hd⟩
    rw [← hr] at he hd ⊢
    refine ⟨ev, rfl, he, ⟨_, (Bh.refl h).did hd⟩, ?_⟩
    unfold ErrT at hg ⊢
    rw [World.cell?_of_block (a := ⟨0, 0, none⟩) (hd.2.block _ hlt hgG)]; exact hg
  have HRS : Hid (∀ W ev, E ≠ 0 → ErrIs W w.heap.size ⟨#[114, 101, 97, 100]⟩ nm E ev → ErrT W → Calls Tryz.prog 47 #[ev] W fun r w' => r = .returned (.int .i64 E) ∧ Below W.heap.size W w') := fun W ev h0 h1 h2 => reason_c _ _ nm E ev W h0 h1 h2
  rw [← hr]
  clear hr h hg hgG hw hn
  simp only
  by_cases h0 : E = 0
  · subst h0
    have HR0 : Hid (Calls Tryz.prog 25 #[.pointer (some ⟨q, 0, none⟩), .string nm] w fun e w' => e = .returned (.tuple #[.string d, .nilIface]) ∧ ∃ G', Bh PS G q v' w G' w') := by
      refine HRD.out.mono ?_
      rintro e w' ⟨ev, rfl, he, hb, _⟩
      rw [he.nil]; exact ⟨rfl, hb⟩
    clear HRD HRS
    go_enter Tryz.func19, Tryz.ntmps19
    go_wp2_with (go_at_call 25; refine HR0.out.mono ?_; rintro e w1 ⟨rfl, ⟨G', h1⟩⟩)
    go_returns
    exact ⟨.nilIface, rfl, .inl ⟨rfl, rfl⟩, G', h1⟩
  · have HR0 : Hid (Calls Tryz.prog 25 #[.pointer (some ⟨q, 0, none⟩), .string nm] w fun e w' => ∃ x, e = .returned (.tuple #[.string d, .iface 112 x]) ∧ ErrIs w' w.heap.size ⟨#[114, 101, 97, 100]⟩ nm E (.iface 112 x) ∧ (∃ G', Bh PS G q v' w G' w') ∧ ErrT w') := by
      refine HRD.out.mono ?_
      rintro e w' ⟨ev, rfl, he, hb, hg⟩
      have he2 := he
      rcases he with ⟨h', _⟩ | ⟨_, b, _, rfl, _⟩
      · exact absurd h' h0
      · exact ⟨_, rfl, he2, hb, hg⟩
    have HRS1 : Hid (∀ W ev, ErrIs W w.heap.size ⟨#[114, 101, 97, 100]⟩ nm E ev → ErrT W → Calls Tryz.prog 47 #[ev] W fun r w' => r = .returned (.int .i64 E) ∧ Below W.heap.size W w') := fun W ev h1 h2 => HRS.out W ev h0 h1 h2
    have HBC : Hid (∀ G' w1 w2, Bh PS G q v' w G' w1 → Below w1.heap.size w1 w2 → Bh PS G q v' w G' w2) := fun G' w1 w2 h hb => h.below C hb
    have hd0 : decide (E = 0) = false := decide_eq_false h0
    rw [hd0, if_neg h0]
    by_cases h3 : E = 30
    · subst h3
      clear HRD HRS h0 hd0
      go_enter Tryz.func19, Tryz.ntmps19
      go_wp2_with (first
        | (go_at_call 25; refine HR0.out.mono ?_; rintro e w1 ⟨x, rfl, he, ⟨G', h1⟩, hg⟩)
        | (go_at_call 47; refine (HRS1.out _ _ he hg).mono ?_; rintro e w2 ⟨rfl, hb2⟩))
      go_returns
      exact ⟨.nilIface, rfl, .inl ⟨by simp, rfl⟩, G', HBC.out _ _ _ h1 hb2⟩
    · have b3 : ((E : Int) == 30) = false := by simp; omega
      have b3' : ¬ ((E : Int) = 30) := by omega
      rw [if_neg h3]
      clear HRD HRS h0 hd0 h3
      go_enter Tryz.func19, Tryz.ntmps19
      go_wp2_with (first
        | (go_at_call 25; refine HR0.out.mono ?_; rintro e w1 ⟨x, rfl, he, ⟨G', h1⟩, hg⟩)
        | (go_at_call 47; refine (HRS1.out _ _ he hg).mono ?_; rintro e w2 ⟨rfl, hb2⟩))
      go_returns
      exact ⟨_, G', rfl, he.below hb2, HBC.out _ _ _ h1 hb2⟩
end Go.Proofs.YtofmiaaglbcebaaGreatDoor
