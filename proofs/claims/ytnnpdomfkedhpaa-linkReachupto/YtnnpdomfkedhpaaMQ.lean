
-- Keys: names, numbers, places.
import Derived.Test.YtnnpdomfkedhpaaMP
import Derived.Laws.StructEq
import Derived.Laws.Cover2
import Derived.WalkKit
import Derived.ProofKit
namespace Go.Proofs.Ytnnpdomfkedhpaa
open Go.RowKit Go.MapKept Go.ChangeMaps
set_option linter.unusedVariables false
set_option maxRecDepth 100000
abbrev IsSt : Value → Prop := IsKey .string
abbrev IsNm : Value → Prop := IsKey (.int .i64)
def plV (p : Int × Int) : Value := .agg #[.int .i64 p.1, .int .i64 p.2]
def IsPl (v : Value) : Prop := ∃ p, v = plV p
theorem keySt : KeyK Try.prog 9 IsSt := keyK_plain Try.underlying9
theorem keyNm : KeyK Try.prog 3 IsNm := keyK_plain Try.underlying3
theorem plV_inj {p q : Int × Int} (h : plV p = plV q) : p = q := by
  obtain ⟨a, b⟩ := p; obtain ⟨c, d⟩ := q
  simp [plV] at h
  simp [h.1, h.2]
theorem plF : (Try.prog.fieldsOf 56).toList.map (fun f => (f.name, f.type, f.offset)) = [("Lib", 3, 0), ("At", 3, 1)] := by kernel_rfl
theorem plS : Try.prog.stoodInHeld 56 = false := by kernel_rfl
theorem plU : Try.prog.underlying 56 = some (.struct (Try.prog.fieldsOf 56)) := by kernel_rfl
theorem run_equalIn_pl (w : World) (a b c d : Int) : (Op.equalIn 10000 56 (.agg #[.int .i64 a, .int .i64 b]) (.agg #[.int .i64 c, .int .i64 d])).run Try.prog w = .ok (decide (a = c ∧ b = d)) w := by
  have u3 := Try.underlying3
  have a3 := Try.isAgg3
  have z3 := Try.sizeOf3
  rw [show (10000 : Nat) = 9999 + 1 from rfl, run_equalIn_agg w 9999 56 _ _ plU plS]
  simp only [Program.fieldsOf, Try.underlying56]
  go_simp
  by_cases h1 : a = c <;> by_cases h2 : b = d <;> simp [h1, h2]
theorem run_equal_pl (w : World) (p q : Int × Int) : (Op.equal 56 (plV p) (plV q)).run Try.prog w = .ok (decide (p = q)) w := by
  obtain ⟨a, b⟩ := p; obtain ⟨c, d⟩ := q
  unfold Op.equal plV
  refine (run_equalIn_pl w a b c d).trans ?_
  simp
theorem run_check_pl (w : World) (e : Bool) (p : Int × Int) : (Instr.checkKey e 10000 56 (plV p)).run Try.prog w = .ok () w := by
  have u3 := Try.underlying3
  have a3 := Try.isAgg3
  have z3 := Try.sizeOf3
  have c3 : ∀ x : Int, (Instr.checkKey e 9999 3 (.int .i64 x)).run Try.prog w = .ok () w := fun x => run_checkKey (d := .int .i64) (k := .int .i64 x) u3 (show IsKey (.int .i64) (.int .i64 x) from rfl) e 9998
  obtain ⟨a, b⟩ := p
  rw [show (10000 : Nat) = 9999 + 1 from rfl]
  unfold Instr.checkKey plV
  have hu : Try.prog.underlying 56 = _ := Try.underlying56
  simp only [Sem.run_bind, run_underlying hu, Result.andThen_ok]
  simp [part, isAgg, run_underlying u3, c3, Result.andThen]
theorem keyPl : KeyK Try.prog 56 IsPl := by
  refine ⟨fun w b key ⟨p, hp⟩ => hp ▸ run_check_pl w b p, ?_, ?_⟩
  · rintro w key ⟨⟨a, b⟩, rfl⟩
    have : Instr.sameBits 10000 (plV (a, b)) (plV (a, b)) = true := by
      unfold plV
      simp [Instr.sameBits]
    simp [Instr.keyThatStays, this]
  · rintro w key es ⟨p, rfl⟩ hall
    have hu : Try.prog.underlying 56 = some (.struct (Try.prog.fieldsOf 56)) := plU
    have ask : ∀ (es : List MapEntry) (i : Nat), (∀ x ∈ es, IsPl x.key) → ((Instr.findAsking 56 (plV p) es i).run Try.prog w = .ok none w ∧ ∀ x ∈ es, x.key ≠ plV p) ∨ ∃ j x, (Instr.findAsking 56 (plV p) es i).run Try.prog w = .ok (some (i + j, x.val)) w ∧ es[j]? = some x ∧ x.key = plV p := by
      intro es
      induction es with
      | nil => intro i _; exact .inl ⟨by simp [Instr.findAsking], by simp⟩
      | cons e r ih =>
        intro i h
        obtain ⟨q, hq⟩ := h e (.head _)
        have hr := run_equal_pl w p q
        by_cases hpq : p = q
        · subst hpq
          exact .inr ⟨0, e, by simp [Instr.findAsking, hq, hr, Result.andThen], rfl, hq⟩
        · have hne : e.key ≠ plV p := by rw [hq]; exact fun x => hpq (plV_inj x).symm
          rcases ih (i + 1) (fun x hx => h x (.tail _ hx)) with ⟨h1, h2⟩ | ⟨j, x, h1, h2, h3⟩
          · refine .inl ⟨by simp [Instr.findAsking, hq, hr, hpq, h1, Result.andThen], fun x hx => ?_⟩
            rcases List.mem_cons.1 hx with rfl | hx
            · exact hne
            · exact h2 x hx
          · exact .inr ⟨j + 1, x, by simp [Instr.findAsking, hq, hr, hpq, h1, Result.andThen, Nat.add_assoc, Nat.add_comm 1 j], by simpa using h2, h3⟩
    cases es with
    | nil =>
      refine .inl ⟨?_, by simp⟩
      simp [Instr.findKey, run_underlying hu, Instr.findNow, Result.andThen]
    | cons e r =>
      obtain ⟨q, hq⟩ := hall e (.head _)
      have hk : (Instr.findKey 56 (plV p) (e :: r)).run Try.prog w = (Instr.findAsking 56 (plV p) (e :: r) 0).run Try.prog w := by
        have : Instr.findNow (.struct (Try.prog.fieldsOf 56)) (plV p) (e :: r) 0 = none := by
          rw [Instr.findNow, hq]; simp [Instr.sameNow]
        simp [Instr.findKey, run_underlying hu, this, Result.andThen]
      rw [hk]
      simpa using ask (e :: r) 0 hall
end Go.Proofs.Ytnnpdomfkedhpaa
