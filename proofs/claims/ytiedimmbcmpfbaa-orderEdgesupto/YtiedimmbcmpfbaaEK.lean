
-- Keys that are edges.
import Derived.Test.YtiedimmbcmpfbaaSC
import Derived.Laws.StructEq
import Derived.Laws.Cover2
namespace Go.Proofs.Ytiedimmbcmpfbaa
open Go.ChangeShapes Go.WideShapes Go.ChangeAt Go.RowKit Go.MapKept Go.ChangeMaps
set_option linter.unusedVariables false
set_option maxRecDepth 100000
abbrev Ed := ByteArray × ByteArray
def edV (p : Ed) : Value := .agg #[.string p.1, .string p.2]
def IsEd (v : Value) : Prop := ∃ p, v = edV p
theorem edV_inj {p q : Ed} (h : edV p = edV q) : p = q := by
  obtain ⟨a, b⟩ := p; obtain ⟨c, d⟩ := q
  simp [edV] at h
  simp [h.1, h.2]
theorem edS : Try.prog.stoodInHeld 38 = false := by kernel_rfl
theorem edU : Try.prog.underlying 38 = some (.struct (Try.prog.fieldsOf 38)) := by kernel_rfl
theorem run_equalIn_ed (w : World) (a b c d : ByteArray) : (Op.equalIn 10000 38 (.agg #[.string a, .string b]) (.agg #[.string c, .string d])).run Try.prog w = .ok (decide (a = c ∧ b = d)) w := by
  have u3 := Try.underlying9
  have a3 := Try.isAgg9
  have z3 := Try.sizeOf9
  rw [show (10000 : Nat) = 9999 + 1 from rfl, run_equalIn_agg w 9999 38 _ _ edU edS]
  simp only [Program.fieldsOf, Try.underlying38]
  go_simp
  have ne : ∀ x y : ByteArray, x ≠ y → ¬ x.toList = y.toList := fun x y h e => by have := strNe h; rw [e] at this; simp at this
  by_cases h1 : a = c
  · by_cases h2 : b = d
    · simp [h1, h2]
    · have := ne _ _ h2
      simp [h1, h2, this]
  · have := ne _ _ h1
    simp [h1, this]
theorem run_equal_ed (w : World) (p q : Ed) : (Op.equal 38 (edV p) (edV q)).run Try.prog w = .ok (decide (p = q)) w := by
  obtain ⟨a, b⟩ := p; obtain ⟨c, d⟩ := q
  unfold Op.equal edV
  refine (run_equalIn_ed w a b c d).trans ?_
  simp
theorem run_check_ed (w : World) (e : Bool) (p : Ed) : (Instr.checkKey e 10000 38 (edV p)).run Try.prog w = .ok () w := by
  have u3 := Try.underlying9
  have a3 := Try.isAgg9
  have z3 := Try.sizeOf9
  have c3 : ∀ x : ByteArray, (Instr.checkKey e 9999 9 (.string x)).run Try.prog w = .ok () w := fun x => run_checkKey (d := .string) (k := .string x) u3 (show IsKey .string (.string x) from trivial) e 9998
  obtain ⟨a, b⟩ := p
  rw [show (10000 : Nat) = 9999 + 1 from rfl]
  unfold Instr.checkKey edV
  have hu : Try.prog.underlying 38 = _ := Try.underlying38
  simp only [Sem.run_bind, run_underlying hu, Result.andThen_ok]
  simp [part, isAgg, run_underlying u3, c3, Result.andThen]
theorem keyEd : KeyK Try.prog 38 IsEd := by
  refine ⟨fun w b key ⟨p, hp⟩ => hp ▸ run_check_ed w b p, ?_, ?_⟩
  · rintro w key ⟨⟨a, b⟩, rfl⟩
    have : Instr.sameBits 10000 (edV (a, b)) (edV (a, b)) = true := by
      unfold edV
      simp [Instr.sameBits]
      have q : ∀ x : ByteArray, (x == x) = true := fun x => by show (x.data == x.data) = true; exact beq_self_eq_true _
      exact ⟨q a, q b⟩
    simp [Instr.keyThatStays, this]
  · rintro w key es ⟨p, rfl⟩ hall
    have hu : Try.prog.underlying 38 = some (.struct (Try.prog.fieldsOf 38)) := edU
    have ask : ∀ (es : List MapEntry) (i : Nat), (∀ x ∈ es, IsEd x.key) → ((Instr.findAsking 38 (edV p) es i).run Try.prog w = .ok none w ∧ ∀ x ∈ es, x.key ≠ edV p) ∨ ∃ j x, (Instr.findAsking 38 (edV p) es i).run Try.prog w = .ok (some (i + j, x.val)) w ∧ es[j]? = some x ∧ x.key = edV p := by
      intro es
      induction es with
      | nil => intro i _; exact .inl ⟨by simp [Instr.findAsking], by simp⟩
      | cons e r ih =>
        intro i h
        obtain ⟨q, hq⟩ := h e (.head _)
        have hr := run_equal_ed w p q
        by_cases hpq : p = q
        · subst hpq
          exact .inr ⟨0, e, by simp [Instr.findAsking, hq, hr, Result.andThen], rfl, hq⟩
        · have hne : e.key ≠ edV p := by rw [hq]; exact fun x => hpq (edV_inj x).symm
          rcases ih (i + 1) (fun x hx => h x (.tail _ hx)) with ⟨h1, h2⟩ | ⟨j, x, h1, h2, h3⟩
          · refine .inl ⟨by simp [Instr.findAsking, hq, hr, hpq, h1, Result.andThen], fun x hx => ?_⟩
            rcases List.mem_cons.1 hx with rfl | hx
            · exact hne
            · exact h2 x hx
          · exact .inr ⟨j + 1, x, by simp [Instr.findAsking, hq, hr, hpq, h1, Result.andThen, Nat.add_assoc, Nat.add_comm 1 j], by simpa using h2, h3⟩
    cases es with
    | nil =>
      refine .inl ⟨?_, by simp⟩
      simp [Instr.findKey, run_underlying hu, Instr.findNow, Result.andThen]
    | cons e r =>
      obtain ⟨q, hq⟩ := hall e (.head _)
      have hk : (Instr.findKey 38 (edV p) (e :: r)).run Try.prog w = (Instr.findAsking 38 (edV p) (e :: r) 0).run Try.prog w := by
        have : Instr.findNow (.struct (Try.prog.fieldsOf 38)) (edV p) (e :: r) 0 = none := by
          rw [Instr.findNow, hq]; simp [Instr.sameNow]
        simp [Instr.findKey, run_underlying hu, this, Result.andThen]
      rw [hk]
      simpa using ask (e :: r) 0 hall
abbrev SetE := MpAt (α := Ed) IsEd edV
theorem isEd (x : Ed) : IsEd (edV x) := ⟨x, rfl⟩
theorem injEd (x y : Ed) (h : edV x = edV y) : x = y := edV_inj h
def edL (p : Ed) : List Value := [.string p.1, .string p.2]
theorem edL_len (x : Ed) : (edL x).length = 2 := rfl
theorem edL_one : ∀ x, ∀ u ∈ edL x, u.oneCell' = true := by
  intro x u hu
  simp only [edL, List.mem_cons, List.not_mem_nil, or_false] at hu
  rcases hu with rfl | rfl <;> rfl
theorem elE : El edL 2 38 24 32 := ⟨Try.underlying24, ⟨.agg #[.string ⟨#[]⟩, .string ⟨#[]⟩], by kernel_rfl, rfl⟩, edL_len, by decide⟩
abbrev RowEd := RowG edL
theorem RowG.ed {w : World} {v : Value} {L : List Ed} {k : Nat} {x : Ed} (h : RowEd w v L) (hx : L[k]? = some x) : ∃ b off cap, v = .slice (some ⟨b, off, none⟩) L.length cap ∧ w.cell? ⟨b, off + k * 2, none⟩ = some (.string x.1) ∧ w.cell? ⟨b, off + k * 2 + 1, none⟩ = some (.string x.2) := by
  obtain ⟨b, off, cap, e, _, _, hc⟩ := RowG.at edL_len h hx
  exact ⟨b, off, cap, e, hc 0 _ rfl, hc 1 _ rfl⟩
theorem mapT_u : Try.prog.underlying 52 = some (.map 9 47) := Try.underlying52
theorem mapE_u : Try.prog.underlying 41 = some (.map 38 47) := Try.underlying41
theorem mapD_u : Try.prog.underlying 33 = some (.map 9 40) := Try.underlying33
theorem zeroLI (w : World) : (zeroValue 40).run Try.prog w = .ok (.slice none 0 0) w := by
  have : (Try.prog.info? 40).map (·.zero) = some (some (.slice none 0 0)) := by kernel_rfl
  cases h : Try.prog.info? 40 with
  | none => simp [h] at this
  | some i => simp [h] at this; simp [zeroValue, typeInfo, h, this, Result.andThen]
end Go.Proofs.Ytiedimmbcmpfbaa
