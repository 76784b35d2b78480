
-- The statement's own table of verbs; pieces that part words.
import Derived.Test.YtdamhdceajmdfaaDoorTT
import Derived.Test.YtdamhdceajmdfaaDoorPS
import Derived.Test.YtdamhdceajmdfaaDoorCX
import Derived.Laws.Entries
namespace Go.Proofs.YtdamhdceajmdfaaDoor
open Go.ChangeShapes Go.WideShapes Go.ChangeAt Go.RowKit
set_option linter.unusedVariables false
set_option maxRecDepth 100000
set_option linter.unusedSimpArgs false
def LT (w : World) : Prop := 1 < w.heap.size ∧ ∀ k, k < 14 → w.cell? ⟨1, k, none⟩ = some (.string (byB (lawW.getD k [])))
theorem LT.up {w w' : World} (h : LT w) (hb : Below w.heap.size w w') : LT w' := ⟨Nat.lt_of_lt_of_le h.1 hb.size, fun k hk => (hb.cell (p := ⟨1, k, none⟩) h.1).trans (h.2 k hk)⟩
theorem gL : Tryd.prog.globalNamed "shelf/shelflaw19.verbs" = some 1 := by kernel_rfl
theorem gLt : (Tryd.prog.globals[1]?).map (·.type) = some 53 := by kernel_rfl
theorem laid_l {H : Type} : (Rows.laid_shelf_shelflaw19_verbs : DataW H) = .agg (lawW.map fun l => .lit (.string l)) := rfl
theorem lt_of {W : World} {rest : List (String × DataW Unit)} (h : laidMet Tryd.prog (("shelf/shelflaw19.verbs", Rows.laid_shelf_shelflaw19_verbs) :: rest) W) : LT W := by
  have hc := strTab gL gLt laid_l h
  exact ⟨World.block_lt_of_cell? W _ (hc 0 (by decide)), hc⟩
theorem and_le (x : Int) (c : Nat) (hc : c < 4611686018427387904) : ∃ m : Nat, m ≤ c ∧ bits .and .i64 x (c : Int) = (m : Int) := by
  refine ⟨(BitVec.ofInt 64 x &&& BitVec.ofInt 64 (c : Int)).toNat, ?_, ?_⟩
  · rw [BitVec.toNat_and]
    refine Nat.le_trans Nat.and_le_right ?_
    rw [BitVec.toNat_ofInt]; omega
  · have h : (BitVec.ofInt 64 x &&& BitVec.ofInt 64 (c : Int)).toNat ≤ c := by
      rw [BitVec.toNat_and]
      refine Nat.le_trans Nat.and_le_right ?_
      rw [BitVec.toNat_ofInt]; omega
    have e : bits .and .i64 x (c : Int) = IntKind.i64.wrap ((BitVec.ofInt 64 x &&& BitVec.ofInt 64 (c : Int)).toNat : Int) := rfl
    rw [e, IntKind.wrap_i64]
    omega
theorem pcs_mem (j : Nat) (h : j < 8) : pcs.getD j [] ∈ pcs := by
  have : ∀ k : Fin 8, pcs.getD k.val [] ∈ pcs := by decide
  exact this ⟨j, h⟩
def btw (x : Int) : List UInt8 := pcs.getD (bits .and .i64 x 7).toNat []
theorem btw_mem (x : Int) : btw x ∈ pcs := by
  obtain ⟨m, hm, he⟩ := and_le x 7 (by decide)
  have he7 : bits .and .i64 x 7 = (m : Int) := he
  unfold btw
  rw [he7]
  exact pcs_mem _ (by simp; omega)
theorem pcs_len {p : List UInt8} (h : p ∈ pcs) : p.length ≤ 22 := by
  have : ∀ q ∈ pcs, q.length ≤ 22 := by decide
  exact this p h
theorem between_c (x : Int) (w : World) : Calls Tryd.prog 26 #[.int .i64 x] w fun e w' => e = .returned (.string (byB (btw x))) ∧ w' = w := by
  obtain ⟨m, hm, he⟩ := and_le x 7 (by decide)
  have he7 : bits .and .i64 x 7 = (m : Int) := he
  have HR : Hid (btw x = pcs.getD m []) := by show _ = _; unfold btw; rw [he7]; rfl
  clear he
  have all : m = 0 ∨ m = 1 ∨ m = 2 ∨ m = 3 ∨ m = 4 ∨ m = 5 ∨ m = 6 ∨ m = 7 := by omega
  clear hm
  rcases all with rfl | rfl | rfl | rfl | rfl | rfl | rfl | rfl
  all_goals
    go_enter Tryd.func26, Tryd.ntmps26
    go_wp2
    go_ret
    exact ⟨by rw [HR.out]; rfl, rfl⟩
theorem slice_pre0 : ∀ w, (Instr.slice 9 (.string ⟨#[32, 9]⟩) none (some (.int .i64 0)) none).run Tryd.prog w = .ok (.string ⟨#[]⟩) w := by
  intro w; simp [go_sem, Tryd.underlying9]; rfl
theorem slice_pre1 : ∀ w, (Instr.slice 9 (.string ⟨#[32, 9]⟩) none (some (.int .i64 1)) none).run Tryd.prog w = .ok (.string ⟨#[32]⟩) w := by
  intro w; simp [go_sem, Tryd.underlying9]; rfl
theorem joinW_len (M : List (List UInt8 × ByteArray)) (h : ∀ p ∈ M, p.1 ∈ pcs) : (joinW M).length ≤ 22 * M.length + (M.map fun p => p.2.size).sum := by
  induction M with
  | nil => simp [joinW]
  | cons p M ih =>
    have h1 := ih (fun x hx => h x (by simp [hx]))
    have h2 := pcs_len (h p (by simp))
    unfold joinW at h1 ⊢
    rw [List.flatMap_cons]
    simp only [List.length_append, byL_size, List.length_cons, List.map_cons, List.sum_cons]
    omega
theorem wr_size {k : Nat} {c : Mr} {t : List UInt8} (h : Wr k c t) (hk : k < 14) : t.length ≤ 46 + c.n.size + (22 * c.ns.length + (c.ns.map ByteArray.size).sum) := by
  obtain ⟨pre, nm, pr, M, e, rfl, hpre, hnm, hp1, hp2, hM, hMn, he⟩ := h
  have h1 := joinW_len M hM
  have h2 : (lawW.getD k []).length ≤ 9 := by
    have : ∀ j : Fin 14, (lawW.getD j.val []).length ≤ 9 := by decide
    exact this ⟨k, hk⟩
  have h3 : e.length ≤ 11 := by
    have : ∀ q ∈ ends, q.length ≤ 11 := by decide
    exact this e he
  have h4 : pre.length ≤ 1 := by rcases hpre with rfl | rfl <;> simp
  have h5 : nm.length ≤ 22 + c.n.size := by
    split at hnm
    · subst hnm; simp
    · obtain ⟨p, hp, rfl⟩ := hnm
      have := pcs_len hp
      rw [List.length_append, byL_size]; omega
  have h6 : (if pr = true then [40] else [] : List UInt8).length ≤ 1 := by split <;> simp
  have h7 : (if pr = true then [32, 41] else [] : List UInt8).length ≤ 2 := by split <;> simp
  have h8 : (M.map fun p => p.2.size).sum = (c.ns.map ByteArray.size).sum := by rw [← hMn, List.map_map]; rfl
  have h9 : M.length = c.ns.length := by rw [← hMn, List.length_map]
  simp only [List.length_append]
  omega
theorem wr_clean {k : Nat} {c : Mr} {t : List UInt8} (h : Wr k c t) (hc : Cl0 c k) : t.length ≤ 12 * szM c := by
  have h1 := wr_size h hc.lt
  have h2 : 22 * c.ns.length + (c.ns.map ByteArray.size).sum ≤ 12 * sumS c.ns := by
    have hns := hc.ns
    generalize c.ns = L at hns
    induction L with
    | nil => simp [sumS]
    | cons x r ih =>
      have := ih (fun y hy => hns y (by simp [hy]))
      have hx := (cleanN_all (hns x (by simp))).2.1
      have : 0 < x.size := by rw [← byL_size]; exact List.length_pos_iff.2 hx
      rw [sumS_cons]
      simp only [List.length_cons, List.map_cons, List.sum_cons]
      omega
  unfold szM
  omega
end Go.Proofs.YtdamhdceajmdfaaDoor
