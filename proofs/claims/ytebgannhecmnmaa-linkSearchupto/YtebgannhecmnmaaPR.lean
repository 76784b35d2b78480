
-- probe.
import Derived.Test.YtebgannhecmnmaaSE
import Derived.Test.YtebgannhecmnmaaHC
import Derived.Deep.QuietTactic
namespace Go.Proofs.Ytebgannhecmnmaa
open Go.ChangeShapes Go.WideShapes Go.ChangeAt Go.RowKit Go.MapKept
set_option linter.unusedVariables false
set_option maxRecDepth 100000
def pF : ByteArray := ⟨#[102]⟩
def pG : ByteArray := ⟨#[103]⟩
def pM : ByteArray := ⟨#[109]⟩
def pL : Lb := ⟨[(pF, 8)], [8], [pM], [[pF]], [[pG]]⟩
theorem pL_srch : srchN pL 3 ⟨[], [pF], []⟩ = ⟨[pF], [pG], [(3, 8)]⟩ := by kernel_rfl
theorem rowN_one {α : Type} {c : α → List Value} {F : Nat → Prop} {W : World} {b : Nat} {cs : Array Value} {t : TypeId} (x : α) (h : W.heap[b]? = some (.cells cs t (0, 0))) (hcs : cs.toList = c x) (hF : ¬ F b) : RowN F c W (.slice (some ⟨b, 0, none⟩) 1 1) [x] := by
  refine ⟨_, 1, rfl, by simp, by decide, by simp, fun _ => ⟨b, 0, rfl, hF, fun j u hu => ?_⟩⟩
  rw [Nat.zero_add]
  refine cell_rowK h j u ?_
  rw [List.flatMap_cons, List.flatMap_nil, List.append_nil, ← hcs] at hu
  simpa using hu
theorem nine_new (w : World) (o1 o2 o3 o4 o5 o6 o7 o8 o9 : Obj) : (((((((((w.alloc o1).alloc o2).alloc o3).alloc o4).alloc o5).alloc o6).alloc o7).alloc o8).alloc o9).heap[w.heap.size]? = some o1 ∧ (((((((((w.alloc o1).alloc o2).alloc o3).alloc o4).alloc o5).alloc o6).alloc o7).alloc o8).alloc o9).heap[w.heap.size + 1]? = some o2 ∧ (((((((((w.alloc o1).alloc o2).alloc o3).alloc o4).alloc o5).alloc o6).alloc o7).alloc o8).alloc o9).heap[w.heap.size + 1 + 1]? = some o3 ∧ (((((((((w.alloc o1).alloc o2).alloc o3).alloc o4).alloc o5).alloc o6).alloc o7).alloc o8).alloc o9).heap[w.heap.size + 1 + 1 + 1]? = some o4 ∧ (((((((((w.alloc o1).alloc o2).alloc o3).alloc o4).alloc o5).alloc o6).alloc o7).alloc o8).alloc o9).heap[w.heap.size + 1 + 1 + 1 + 1]? = some o5 ∧ (((((((((w.alloc o1).alloc o2).alloc o3).alloc o4).alloc o5).alloc o6).alloc o7).alloc o8).alloc o9).heap[w.heap.size + 1 + 1 + 1 + 1 + 1]? = some o6 ∧ (((((((((w.alloc o1).alloc o2).alloc o3).alloc o4).alloc o5).alloc o6).alloc o7).alloc o8).alloc o9).heap[w.heap.size + 1 + 1 + 1 + 1 + 1 + 1]? = some o7 ∧ (((((((((w.alloc o1).alloc o2).alloc o3).alloc o4).alloc o5).alloc o6).alloc o7).alloc o8).alloc o9).heap[w.heap.size + 1 + 1 + 1 + 1 + 1 + 1 + 1]? = some o8 ∧ (((((((((w.alloc o1).alloc o2).alloc o3).alloc o4).alloc o5).alloc o6).alloc o7).alloc o8).alloc o9).heap[w.heap.size + 1 + 1 + 1 + 1 + 1 + 1 + 1 + 1]? = some o9 ∧ (((((((((w.alloc o1).alloc o2).alloc o3).alloc o4).alloc o5).alloc o6).alloc o7).alloc o8).alloc o9).heap.size = w.heap.size + 9 ∧ Below w.heap.size w (((((((((w.alloc o1).alloc o2).alloc o3).alloc o4).alloc o5).alloc o6).alloc o7).alloc o8).alloc o9) := by
  have h1 := heap_alloc_new w o1
  have h2 := heap_alloc_new (w.alloc o1) o2
  rw [World.size_alloc] at h2
  have h3 := heap_alloc_new ((w.alloc o1).alloc o2) o3
  rw [World.size_alloc, World.size_alloc] at h3
  have h4 := heap_alloc_new (((w.alloc o1).alloc o2).alloc o3) o4
  rw [World.size_alloc, World.size_alloc, World.size_alloc] at h4
  have h5 := heap_alloc_new ((((w.alloc o1).alloc o2).alloc o3).alloc o4) o5
  rw [World.size_alloc, World.size_alloc, World.size_alloc, World.size_alloc] at h5
  have h6 := heap_alloc_new (((((w.alloc o1).alloc o2).alloc o3).alloc o4).alloc o5) o6
  rw [World.size_alloc, World.size_alloc, World.size_alloc, World.size_alloc, World.size_alloc] at h6
  have h7 := heap_alloc_new ((((((w.alloc o1).alloc o2).alloc o3).alloc o4).alloc o5).alloc o6) o7
  rw [World.size_alloc, World.size_alloc, World.size_alloc, World.size_alloc, World.size_alloc, World.size_alloc] at h7
  have h8 := heap_alloc_new (((((((w.alloc o1).alloc o2).alloc o3).alloc o4).alloc o5).alloc o6).alloc o7) o8
  rw [World.size_alloc, World.size_alloc, World.size_alloc, World.size_alloc, World.size_alloc, World.size_alloc, World.size_alloc] at h8
  have h9 := heap_alloc_new ((((((((w.alloc o1).alloc o2).alloc o3).alloc o4).alloc o5).alloc o6).alloc o7).alloc o8) o9
  rw [World.size_alloc, World.size_alloc, World.size_alloc, World.size_alloc, World.size_alloc, World.size_alloc, World.size_alloc, World.size_alloc] at h9
  exact ⟨hupK (hupK (hupK (hupK (hupK (hupK (hupK (hupK (h1) o2) o3) o4) o5) o6) o7) o8) o9, hupK (hupK (hupK (hupK (hupK (hupK (hupK (h2) o3) o4) o5) o6) o7) o8) o9, hupK (hupK (hupK (hupK (hupK (hupK (h3) o4) o5) o6) o7) o8) o9, hupK (hupK (hupK (hupK (hupK (h4) o5) o6) o7) o8) o9, hupK (hupK (hupK (hupK (h5) o6) o7) o8) o9, hupK (hupK (hupK (h6) o7) o8) o9, hupK (hupK (h7) o8) o9, hupK (h8) o9, h9, by simp only [World.size_alloc], (((((((((Below.refl _ w).alloc (by exact Nat.le_refl _) o1).alloc (by simp only [World.size_alloc]; omega) o2).alloc (by simp only [World.size_alloc]; omega) o3).alloc (by simp only [World.size_alloc]; omega) o4).alloc (by simp only [World.size_alloc]; omega) o5).alloc (by simp only [World.size_alloc]; omega) o6).alloc (by simp only [World.size_alloc]; omega) o7).alloc (by simp only [World.size_alloc]; omega) o8).alloc (by simp only [World.size_alloc]; omega) o9⟩
set_option maxHeartbeats 4000000 in
theorem probe_c (w : World) :
    Calls Try.prog 8 #[] w fun e w' => e = .returned (.bool true) ∧ Below w.heap.size w w' := by
  obtain ⟨h1, h2, h3, h4, h5, h6, h7, h8, h9, hsz, hbel⟩ := nine_new w (.cells #[.string ⟨#[102]⟩, .int .i64 8] 41) (.cells #[.int .i64 8] 3) (.cells #[.string ⟨#[109]⟩] 9) (.cells #[.string ⟨#[102]⟩] 9) (.cells #[.slice (some ⟨w.heap.size + 1 + 1 + 1, 0, none⟩) 1 1] 23) (.cells #[.string ⟨#[103]⟩] 9) (.cells #[.slice (some ⟨w.heap.size + 1 + 1 + 1 + 1 + 1, 0, none⟩) 1 1] 23) (.cells #[.slice (some ⟨w.heap.size, 0, none⟩) 1 1, .slice (some ⟨w.heap.size + 1, 0, none⟩) 1 1, .slice (some ⟨w.heap.size + 1 + 1, 0, none⟩) 1 1, .slice (some ⟨w.heap.size + 1 + 1 + 1 + 1, 0, none⟩) 1 1, .slice (some ⟨w.heap.size + 1 + 1 + 1 + 1 + 1 + 1, 0, none⟩) 1 1] 37) (.cells #[.string ⟨#[102]⟩] 9)
  obtain ⟨W, hW⟩ : ∃ W, W = (((((((((w.alloc (.cells #[.string ⟨#[102]⟩, .int .i64 8] 41)).alloc (.cells #[.int .i64 8] 3)).alloc (.cells #[.string ⟨#[109]⟩] 9)).alloc (.cells #[.string ⟨#[102]⟩] 9)).alloc (.cells #[.slice (some ⟨w.heap.size + 1 + 1 + 1, 0, none⟩) 1 1] 23)).alloc (.cells #[.string ⟨#[103]⟩] 9)).alloc (.cells #[.slice (some ⟨w.heap.size + 1 + 1 + 1 + 1 + 1, 0, none⟩) 1 1] 23)).alloc (.cells #[.slice (some ⟨w.heap.size, 0, none⟩) 1 1, .slice (some ⟨w.heap.size + 1, 0, none⟩) 1 1, .slice (some ⟨w.heap.size + 1 + 1, 0, none⟩) 1 1, .slice (some ⟨w.heap.size + 1 + 1 + 1 + 1, 0, none⟩) 1 1, .slice (some ⟨w.heap.size + 1 + 1 + 1 + 1 + 1 + 1, 0, none⟩) 1 1] 37)).alloc (.cells #[.string ⟨#[102]⟩] 9)) := ⟨_, rfl⟩
  rw [← hW] at h1 h2 h3 h4 h5 h6 h7 h8 h9 hsz hbel
  have hlib : LibAt (fun b => W.heap.size ≤ b) W (.slice (some ⟨w.heap.size, 0, none⟩) 1 1) (.slice (some ⟨w.heap.size + 1, 0, none⟩) 1 1) (.slice (some ⟨w.heap.size + 1 + 1, 0, none⟩) 1 1) (.slice (some ⟨w.heap.size + 1 + 1 + 1 + 1, 0, none⟩) 1 1) (.slice (some ⟨w.heap.size + 1 + 1 + 1 + 1 + 1 + 1, 0, none⟩) 1 1) pL :=
    { e := rowN_one (pF, 8) h1 rfl (by rw [hsz]; omega), a := rowN_one 8 h2 rfl (by rw [hsz]; omega), n := rowN_one pM h3 rfl (by rw [hsz]; omega),
      f := ⟨[.slice (some ⟨w.heap.size + 1 + 1 + 1, 0, none⟩) 1 1], rowN_one (c := vaL) _ h5 rfl (by rw [hsz]; omega), rfl, fun i u l hu hl => by
        cases i with
        | zero => simp [pL] at hu hl; subst hu hl; exact rowN_one pF h4 rfl (by rw [hsz]; omega)
        | succ i => simp at hu⟩,
      g := ⟨[.slice (some ⟨w.heap.size + 1 + 1 + 1 + 1 + 1, 0, none⟩) 1 1], rowN_one (c := vaL) _ h7 rfl (by rw [hsz]; omega), rfl, fun i u l hu hl => by
        cases i with
        | zero => simp [pL] at hu hl; subst hu hl; exact rowN_one pG h6 rfl (by rw [hsz]; omega)
        | succ i => simp at hu⟩ }
  have hrow : RowT W (.slice (some ⟨w.heap.size + 1 + 1 + 1 + 1 + 1 + 1 + 1 + 1, 0, none⟩) 1 1) [pF] := (rowN_one (F := fun _ => False) pF h9 rfl id).row
  have HS := hidK (searchL_c _ _ _ _ _ pL 3 (.slice none 0 0) (.slice (some ⟨w.heap.size + 1 + 1 + 1 + 1 + 1 + 1 + 1 + 1, 0, none⟩) 1 1) (.slice none 0 0) ⟨[], [pF], []⟩ W 1 1 1 hlib (RowN.nil (F := fun _ => False)).row hrow (RowN.nil (F := fun _ => False)).row (by decide) (by decide) (by decide) ⟨fun x hx => by simp at hx; subst hx; exact ⟨fun l hl => by simp [pL] at hl; subst hl; decide, fun l hl => by simp [pL] at hl; subst hl; decide⟩, fun x hx => by simp at hx; subst hx; decide, by decide, by decide⟩ (by decide))
  rw [pL_srch] at HS
  have HBEL := hidK hbel
  clear hlib hrow h1 h2 h3 h4 h5 h6 h7 h8 h9 hsz hbel
  rw [hW] at HS
  go_enter Try.func8, Try.ntmps8
  go_upto_region 2 with fail
  go_upto_region 3 with (go_at_call 23; refine HS.out.mono ?_; rintro e w2 ⟨a0, l0, c0, a1, l1, c1, a2, l2, c2, rfl, q1, q2⟩; have HO2 := hidK q1; have HB2 := hidK q2; clear q1 q2)
  rw [← hW] at HB2
  clear hW HS
  obtain ⟨b0, o0, p0, e0, d0⟩ := RowG.tx (k := 0) (OwnF.row elT HO2.out.d) rfl
  obtain ⟨b1, o1, p1, e1, d1⟩ := RowG.tx (k := 0) (OwnF.row elT HO2.out.wt) rfl
  obtain ⟨b2, o2, p2, e2, d2, d3⟩ := RowG.pa (k := 0) (OwnF.row elP HO2.out.p) rfl
  injection e0 with x0 x1 x2
  injection e1 with y0 y1 y2
  injection e2 with z0 z1 z2
  subst x0 y0 z0 x1 y1 z1
  clear x2 y2 z2 HO2
  obtain ⟨w3, hw3⟩ : ∃ w3, w3 = w2.alloc (.cells #[.slice (some ⟨b0, o0, none⟩) 1 c0, .slice (some ⟨b1, o1, none⟩) 1 c1, .slice (some ⟨b2, o2, none⟩) 1 c2] 26) := ⟨_, rfl⟩
  have hb3 : Below w2.heap.size w2 w3 := by rw [hw3]; exact (Below.refl _ _).alloc (Nat.le_refl _) _
  have hy3 : w3.heap[w2.heap.size]? = some (.cells #[.slice (some ⟨b0, o0, none⟩) 1 c0, .slice (some ⟨b1, o1, none⟩) 1 c1, .slice (some ⟨b2, o2, none⟩) 1 c2] 26 (0, 0)) := by rw [hw3]; exact heap_alloc_new _ _
  obtain ⟨z0, z1, z2⟩ := lk_cells hy3
  have d0' := cell_onG d0 hb3
  have d1' := cell_onG d1 hb3
  have d2' := cell_onG d2 hb3
  have d3' := cell_onG d3 hb3
  simp only [Nat.add_zero, Nat.zero_mul] at d0' d1' d2' d3'
  have HF : Hid (Below w.heap.size w w3) := by
    have h2 := HBEL.out.trans (HB2.out.mono HBEL.out.size)
    exact h2.trans (hb3.mono h2.size)
  have hE := fun W => run_equalIn_pl W 3 8 3 8
  simp only [and_self, decide_true] at hE
  have f1 : pF = ⟨#[102]⟩ := rfl
  have g1 : pG = ⟨#[103]⟩ := rfl
  rw [f1] at d0'
  rw [g1] at d1'
  simp only [List.length_cons, List.length_nil, Nat.zero_add]
  rw [← hw3]
  clear hw3 hb3 hy3 d0 d1 d2 d3 f1 g1
  go_wp2
  go_ret
  exact ⟨rfl, HF.out⟩
end Go.Proofs.Ytebgannhecmnmaa
