
-- Rows that are the same; twins.
import Derived.Test.YtbmdclgndlddbaaRF
import Derived.Deep.RegionHeld3
namespace Go.Proofs.Ytbmdclgndlddbaa
open Go.ChangeShapes Go.WideShapes Go.ChangeAt Go.RowKit Go.Sort
set_option linter.unusedVariables false
set_option maxRecDepth 100000
theorem strNe' {x y : ByteArray} (h : x ≠ y) : ¬ x.toList = y.toList := fun e => h (toList_inj e)
set_option maxHeartbeats 4000000 in
theorem eqSy (a a2 : ByteArray) (b c d e f g b2 c2 d2 e2 f2 g2 : Int) (w : World) : (Op.equalIn 9999 29 (.agg #[.string a, .int .i64 b, .int .i64 c, .int .i64 d, .int .i64 e, .int .u64 f, .int .u64 g]) (.agg #[.string a2, .int .i64 b2, .int .i64 c2, .int .i64 d2, .int .i64 e2, .int .u64 f2, .int .u64 g2])).run Try.prog w = .ok (decide (a = a2 ∧ b = b2 ∧ c = c2 ∧ d = d2 ∧ e = e2 ∧ f = f2 ∧ g = g2)) w := by
  have u3 := Try.underlying3
  have a3 := Try.isAgg3
  have z3 := Try.sizeOf3
  have u9 := Try.underlying9
  have a9 := Try.isAgg9
  have z9 := Try.sizeOf9
  have uU := Try.underlying27
  have aU := Try.isAgg27
  have zU := Try.sizeOf27
  have hS : Try.prog.underlying 29 = some (.struct (Try.prog.fieldsOf 29)) := by kernel_rfl
  rw [show (9999 : Nat) = 9998 + 1 from rfl, run_equalIn_agg w 9998 29 _ _ hS (by kernel_rfl)]
  simp only [Program.fieldsOf, Try.underlying29]
  go_simp
  by_cases h0 : a = a2
  · subst h0
    by_cases h1 : b = b2
    · by_cases h2 : c = c2
      · by_cases h3 : d = d2
        · by_cases h4 : e = e2
          · by_cases h5 : f = f2
            · by_cases h6 : g = g2
              · simp [h1, h2, h3, h4, h5, h6]
              · simp [h1, h2, h3, h4, h5, h6]
            · simp [h1, h2, h3, h4, h5]
          · simp [h1, h2, h3, h4]
        · simp [h1, h2, h3]
      · simp [h1, h2]
    · simp [h1]
  · have := strNe' h0
    simp [h0, this]
theorem rw_ext {x y : Rw} : x = y ↔ (x.nm = y.nm ∧ x.bd = y.bd ∧ x.ty = y.ty ∧ x.ot = y.ot ∧ x.sc = y.sc ∧ x.va = y.va ∧ x.sz = y.sz) ∧ x.lt = y.lt := by
  cases x; cases y; simp [and_assoc]
instance : DecidableEq Rw := fun x y => decidable_of_iff _ rw_ext.symm
set_option maxHeartbeats 4000000 in
theorem eqRw (x y : Rw) (w : World) : (Op.equalIn 10000 31 (rwV x) (rwV y)).run Try.prog w = .ok (decide (x = y)) w := by
  have u5 := Try.underlying5
  have a5 := Try.isAgg5
  have z5 := Try.sizeOf5
  have uM := Try.underlying29
  have aM := Try.isAgg29
  have zM := Try.sizeOf29
  have hM := eqSy x.nm y.nm x.bd x.ty x.ot x.sc x.va x.sz y.bd y.ty y.ot y.sc y.va y.sz
  have hS : Try.prog.underlying 31 = some (.struct (Try.prog.fieldsOf 31)) := by kernel_rfl
  have he : decide (x = y) = decide ((x.nm = y.nm ∧ x.bd = y.bd ∧ x.ty = y.ty ∧ x.ot = y.ot ∧ x.sc = y.sc ∧ x.va = y.va ∧ x.sz = y.sz) ∧ x.lt = y.lt) := by
    rw [decide_eq_decide]; exact rw_ext
  rw [he]
  unfold rwV
  rw [show (10000 : Nat) = 9999 + 1 from rfl, run_equalIn_agg w 9999 31 _ _ hS (by kernel_rfl)]
  simp only [Program.fieldsOf, Try.underlying31]
  generalize hq : decide (x.nm = y.nm ∧ x.bd = y.bd ∧ x.ty = y.ty ∧ x.ot = y.ot ∧ x.sc = y.sc ∧ x.va = y.va ∧ x.sz = y.sz) = q at hM
  go_simp
  cases q
  · simp
  · by_cases h2 : x.lt = y.lt <;> simp [h2]
set_option maxHeartbeats 4000000 in
theorem sameR_c (v u : Value) (L : List Rw) (w : World) (h : RowG rwL w v L) (h' : RowG rwL w u L) (hn : L.length ≤ 4194304) :
    Calls Try.prog 10 #[v, u] w fun e w' => e = .returned (.bool true) ∧ Below w.heap.size w w' := by
  obtain ⟨a1, c1, q1, _, _⟩ := h.form
  obtain ⟨a2, c2, q2, _, _⟩ := h'.form
  obtain ⟨n, hnn⟩ : ∃ n, n = L.length := ⟨_, rfl⟩
  have HN := hidK hnn
  have HV := hidK h
  have HU := hidK h'
  subst q1 q2
  rw [← hnn] at hn ⊢ HV HU
  clear h h' hnn
  go_enter Try.func10, Try.ntmps10
  go_wp2
  go_loopw [5] (fun i wx => ∃ k : Nat, i = .int .i64 k ∧ k ≤ n ∧ Below w.heap.size w wx) (fun i _ => n - (intOf i).toNat)
  case atStart => exact ⟨0, rfl, Nat.zero_le _, Below.refl _ _⟩
  case round =>
    obtain ⟨k, rfl, hkn, hB⟩ := hrel
    by_cases hk : k < n
    · have kI : (k : Int) < (n : Int) := by omega
      have k0 : (0 : Int) ≤ (k : Int) := by omega
      have kw : IntKind.i64.wrap ((k : Int) + 1) = (k : Int) + 1 := by rw [IntKind.wrap_i64]; omega
      obtain ⟨x, hx⟩ : ∃ x, L[k]? = some x := ⟨_, List.getElem?_eq_getElem (by have := HN.out; omega)⟩
      obtain ⟨b1, o1, p1, e1, d0, d1, d2, d3, d4, d5, d6, d7⟩ := (HV.out.on hB).rw hx
      obtain ⟨b2, o2, p2, e2, f0, f1, f2, f3, f4, f5, f6, f7⟩ := (HU.out.on hB).rw hx
      injection e1 with e1 e1b e1c
      injection e2 with e2 e2b e2c
      subst e1 e2
      have hE := fun W => eqRw x x W
      simp only [decide_true] at hE
      unfold rwV at hE
      clear hx e1b e1c e2b e2c HV HU
      go_wp2_with fail
      go_quiet (fail)
      have hB3 : Below w.heap.size w (wr.drewN nq) := hB.trans (((Gr.refl wr).drewN nq).below.mono hB.size)
      go_wp2
      go_roundw
      case rel => exact ⟨k + 1, by go_num, by omega, hB3⟩
      case measure => simp [intOf]; omega
    · obtain rfl : k = n := by omega
      clear HV HU
      go_wp2
      go_ret
      exact ⟨rfl, hB⟩
set_option maxHeartbeats 4000000 in
theorem twin_c (v : Value) (L : List Rw) (w : World) (h : RowG rwL w v L) (hn : L.length ≤ 1048576) :
    Calls Try.prog 6 #[v] w fun e w' => ∃ a l c, e = .returned (.slice a l c) ∧ OwR (fun b => w.heap.size ≤ b) w' (.slice a l c) L ∧ Below w.heap.size w w' := by
  obtain ⟨a1, c1, q1, _, _⟩ := h.form
  obtain ⟨n, hnn⟩ : ∃ n, n = L.length := ⟨_, rfl⟩
  have HN := hidK hnn
  have HV := hidK h
  subst q1
  rw [← hnn] at hn ⊢ HV
  clear h hnn
  go_enter Try.func6, Try.ntmps6
  go_wp2_with (refine wpG_all (F := fun b => w.heap.size ≤ b) elR rfl _ _ rfl (.slice none 0 0) (.slice a1 n c1) [] L rfl rfl OwnF.nil HV.out (fun m _ => rwL_one m) (by have := HN.out; simp; omega) (fun b hb => hb) ?_; intro v5 w5 o5 k5 l5; rw [List.nil_append] at o5; obtain ⟨a5, c5, e5, _⟩ := o5.form; rw [← HN.out] at e5; subst e5; have HO5 := hidK o5; have HK5 := hidK k5; clear o5 k5 l5)
  go_ret
  exact ⟨_, _, _, rfl, HO5.out, HK5.out.below (fun k hk => by simp [Value.ownBlock] at hk) (Nat.le_refl _)⟩
end Go.Proofs.Ytbmdclgndlddbaa
