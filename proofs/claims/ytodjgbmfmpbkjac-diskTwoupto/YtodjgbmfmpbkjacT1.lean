-- Two pairs of volumes that know nothing of each other.
import Derived.Test.YtodjgbmfmpbkjacE6c
namespace Go.Proofs.Ytodjgbmfmpbkjac
open Go.RowKit
set_option linter.unusedVariables false
variable {PS : (Nat → Prop) → Nat → St → World → Prop}
/-- The program's volume, something else kept beside it. -/
def PSo (PS : (Nat → Prop) → Nat → St → World → Prop) (Oth : (Nat → Prop) → World → Prop) (F : Nat → Prop) (p : Nat) (st : St) (w : World) : Prop :=
  ∃ F1 Fo, PS F1 p st w ∧ Oth Fo w ∧ (∀ k, F1 k → ¬ Fo k) ∧ (∀ k, Fo k → k < w.heap.size) ∧ ∀ k, F1 k ∨ Fo k → F k
theorem pso_did {Oth : (Nat → Prop) → World → Prop} (hO : ∀ Fo (w w' : World), Oth Fo w → (∀ k, Fo k → k < w.heap.size → w'.heap[k]? = w.heap[k]?) → Oth Fo w') {F F1 Fo : Nat → Prop} {p : Nat} {st' : St} {w w' : World} (h2 : Oth Fo w) (h3 : ∀ k, F1 k → ¬ Fo k) (h4 : ∀ k, Fo k → k < w.heap.size) (h5 : ∀ k, F1 k ∨ Fo k → F k) (hd : PDid PS F1 p st' w w') : PDid (PSo PS Oth) F p st' w w' := by
  obtain ⟨d1, d2⟩ := hd
  have hs := d2.size
  refine ⟨⟨ext F1 w w', Fo, d1, hO Fo w w' h2 fun k hk hlt => d2.block k hlt (fun e => h3 k e hk), fun k hk hf => ?_, fun k hk => by have := h4 k hk; omega, fun k hk => ?_⟩, d2.os, d2.tape, d2.output, d2.size, fun k hk hF => d2.block k hk (fun e => hF (h5 k (.inl e)))⟩
  · rcases hk with hk | hk
    · exact h3 k hk hf
    · have := h4 k hf; omega
  · rcases hk with (hk | hk) | hk
    · exact .inl (h5 k (.inl hk))
    · exact .inr hk
    · exact .inl (h5 k (.inr hk))
theorem pso_ask {Oth : (Nat → Prop) → World → Prop} (hO : ∀ Fo (w w' : World), Oth Fo w → (∀ k, Fo k → k < w.heap.size → w'.heap[k]? = w.heap[k]?) → Oth Fo w') {F F1 Fo : Nat → Prop} {p : Nat} {st : St} {w w' : World} (h2 : Oth Fo w) (h3 : ∀ k, F1 k → ¬ Fo k) (h4 : ∀ k, Fo k → k < w.heap.size) (h5 : ∀ k, F1 k ∨ Fo k → F k) (hd : PS F1 p st w' ∧ Kp F1 w w') : PSo PS Oth F p st w' ∧ Kp F w w' := by
  obtain ⟨d1, d2⟩ := hd
  have hs := d2.size
  exact ⟨⟨F1, Fo, d1, hO Fo w w' h2 fun k hk hlt => d2.block k hlt (fun e => h3 k e hk), h3, fun k hk => by have := h4 k hk; omega, h5⟩, d2.os, d2.tape, d2.output, d2.size, fun k hk hF => d2.block k hk (fun e => hF (h5 k (.inl e)))⟩
theorem pco {Oth : (Nat → Prop) → World → Prop} (hO : ∀ Fo (w w' : World), Oth Fo w → (∀ k, Fo k → k < w.heap.size → w'.heap[k]? = w.heap[k]?) → Oth Fo w') (C : PC0 PS) : PC0 (PSo PS Oth) where
  same := fun {F p st w w'} h hk => by
    obtain ⟨F1, Fo, h1, h2, h3, h4, h5⟩ := h
    by_cases hs : w.heap.size ≤ w'.heap.size
    · exact ⟨F1, Fo, C.same h1 fun k h6 h7 => hk k (h5 k (.inl h6)) h7, hO Fo w w' h2 fun k h6 h7 => hk k (h5 k (.inr h6)) h7, h3, fun k h6 => by have := h4 k h6; omega, h5⟩
    · refine ⟨F1, Fo, C.same h1 fun k h6 h7 => hk k (h5 k (.inl h6)) h7, hO Fo w w' h2 fun k h6 h7 => hk k (h5 k (.inr h6)) h7, h3, fun k h6 => ?_, h5⟩
      have h8 := hk k (h5 k (.inr h6)) (h4 k h6)
      have h9 : w.heap[k]? = some (w.heap[k]'(h4 k h6)) := Array.getElem?_eq_getElem _
      rw [h9] at h8
      exact (Array.getElem?_eq_some_iff.1 h8).1
  mono := fun {F G p st w} h hG => by
    obtain ⟨F1, Fo, h1, h2, h3, h4, h5⟩ := h
    exact ⟨F1, Fo, h1, h2, h3, h4, fun k hk => hG k (h5 k hk)⟩
  create := fun F p st name m0 m1 m2 m3 w ⟨F1, Fo, h1, h2, h3, h4, h5⟩ hw => (C.create F1 p st name m0 m1 m2 m3 w h1 hw).mono fun e w' h => ⟨h.1, pso_did hO h2 h3 h4 h5 h.2⟩
  append := fun F p st n data w ⟨F1, Fo, h1, h2, h3, h4, h5⟩ hw hd => (C.append F1 p st n data w h1 hw hd).mono fun e w' h => ⟨h.1, pso_did hO h2 h3 h4 h5 h.2⟩
  sync := fun F p st n w ⟨F1, Fo, h1, h2, h3, h4, h5⟩ hw => (C.sync F1 p st n w h1 hw).mono fun e w' h => ⟨h.1, pso_did hO h2 h3 h4 h5 h.2⟩
  syncDir := fun F p st w ⟨F1, Fo, h1, h2, h3, h4, h5⟩ hw => (C.syncDir F1 p st w h1 hw).mono fun e w' h => ⟨h.1, pso_did hO h2 h3 h4 h5 h.2⟩
  rename := fun F p st old to w ⟨F1, Fo, h1, h2, h3, h4, h5⟩ hw => (C.rename F1 p st old to w h1 hw).mono fun e w' h => ⟨h.1, pso_did hO h2 h3 h4 h5 h.2⟩
  remove := fun F p st name w ⟨F1, Fo, h1, h2, h3, h4, h5⟩ hw => (C.remove F1 p st name w h1 hw).mono fun e w' h => ⟨h.1, pso_did hO h2 h3 h4 h5 h.2⟩
  crash := fun F p st n cv cuts w ⟨F1, Fo, h1, h2, h3, h4, h5⟩ hw hr hF hl => (C.crash F1 p st n cv cuts w h1 hw hr (fun a k b c => hF a k b (h5 k (.inl c))) hl).mono fun e w' h => ⟨h.1, pso_did hO h2 h3 h4 h5 h.2⟩
  find := fun F p st name w ⟨F1, Fo, h1, h2, h3, h4, h5⟩ hw => (C.find F1 p st name w h1 hw).mono fun e w' h => ⟨h.1, pso_ask hO h2 h3 h4 h5 h.2⟩
  read := fun F p st n w ⟨F1, Fo, h1, h2, h3, h4, h5⟩ hw => (C.read F1 p st n w h1 hw).mono fun e w' h => ⟨h.1, pso_ask hO h2 h3 h4 h5 h.2⟩
  loose := fun F p st n w ⟨F1, Fo, h1, h2, h3, h4, h5⟩ hw => (C.loose F1 p st n w h1 hw).mono fun e w' h => ⟨h.1, pso_ask hO h2 h3 h4 h5 h.2⟩
  names := fun F p st w ⟨F1, Fo, h1, h2, h3, h4, h5⟩ hw => (C.names F1 p st w h1 hw).mono fun e w' h => ⟨h.1, pso_ask hO h2 h3 h4 h5 h.2⟩
  used := fun F p st w ⟨F1, Fo, h1, h2, h3, h4, h5⟩ hw => (C.used F1 p st w h1 hw).mono fun e w' h => ⟨h.1, pso_ask hO h2 h3 h4 h5 h.2⟩
  pending := fun F p st w ⟨F1, Fo, h1, h2, h3, h4, h5⟩ hw => (C.pending F1 p st w h1 hw).mono fun e w' h => ⟨h.1, pso_ask hO h2 h3 h4 h5 h.2⟩
/-- A pair of volumes, in blocks from B on. -/
def Pair (PS : (Nat → Prop) → Nat → St → World → Prop) (B pe ps : Nat) (se : St) (Fo : Nat → Prop) (w : World) : Prop :=
  ∃ Fa Fb, PS Fa pe se w ∧ RefSt Fb ps se w ∧ (∀ k, Fa k → ¬ Fb k) ∧ (∀ k, Fa k ∨ Fb k → Fo k) ∧ ∀ k, Fo k → B ≤ k
theorem pair_same (C : PC0 PS) (B pe ps : Nat) (se : St) : ∀ Fo (w w' : World), Pair PS B pe ps se Fo w → (∀ k, Fo k → k < w.heap.size → w'.heap[k]? = w.heap[k]?) → Pair PS B pe ps se Fo w' := fun Fo w w' h hk => by
  obtain ⟨Fa, Fb, h1, h2, h3, h4, h5⟩ := h
  exact ⟨Fa, Fb, C.same h1 fun k a b => hk k (h4 k (.inl a)) b, h2.same fun k a b => hk k (h4 k (.inr a)) b, h3, h4, h5⟩
/-- Two pairs, all apart. -/
structure Four (PS : (Nat → Prop) → Nat → St → World → Prop) (B pd pr : Nat) (s1 : St) (pe ps : Nat) (s2 : St) (w : World) : Prop where
  sets : ∃ F1 G1 F2 G2 : Nat → Prop, PS F1 pd s1 w ∧ RefSt G1 pr s1 w ∧ PS F2 pe s2 w ∧ RefSt G2 ps s2 w ∧
    (∀ k, F1 k → ¬ G1 k) ∧ (∀ k, F2 k → ¬ G2 k) ∧ (∀ k, F1 k ∨ G1 k → ¬ (F2 k ∨ G2 k)) ∧ (∀ k, F1 k ∨ G1 k → B ≤ k ∧ k < w.heap.size) ∧ ∀ k, F2 k ∨ G2 k → B ≤ k ∧ k < w.heap.size
theorem Four.sym {B pd pr pe ps : Nat} {s1 s2 : St} {w : World} (h : Four PS B pd pr s1 pe ps s2 w) : Four PS B pe ps s2 pd pr s1 w := by
  obtain ⟨F1, G1, F2, G2, a1, a2, a3, a4, a5, a6, a7, a8, a9⟩ := h.sets
  exact ⟨F2, G2, F1, G1, a3, a4, a1, a2, a6, a5, fun k h1 h2 => a7 k h2 h1, a9, a8⟩
theorem Four.below (C : PC0 PS) {B pd pr pe ps : Nat} {s1 s2 : St} {w w' : World} (h : Four PS B pd pr s1 pe ps s2 w) (hb : Below w.heap.size w w') : Four PS B pd pr s1 pe ps s2 w' := by
  obtain ⟨F1, G1, F2, G2, a1, a2, a3, a4, a5, a6, a7, a8, a9⟩ := h.sets
  have hs := hb.size
  exact ⟨F1, G1, F2, G2, C.below a1 hb, a2.same fun k _ hk => hb.block k hk, C.below a3 hb, a4.same fun k _ hk => hb.block k hk, a5, a6, a7, fun k hk => by have := a8 k hk; omega, fun k hk => by have := a9 k hk; omega⟩
theorem Four.two (C : PC0 PS) {B pd pr pe ps : Nat} {s1 s2 : St} {w : World} (h : Four PS B pd pr s1 pe ps s2 w) : ∃ Fd Fr, Two (PSo PS (Pair PS B pe ps s2)) B Fd pd s1 Fr pr s1 w := by
  obtain ⟨F1, G1, F2, G2, a1, a2, a3, a4, a5, a6, a7, a8, a9⟩ := h.sets
  refine ⟨fun k => F1 k ∨ (F2 k ∨ G2 k), G1, ⟨⟨F1, fun k => F2 k ∨ G2 k, a1, ⟨F2, G2, a3, a4, a6, fun k hk => hk, fun k hk => (a9 k hk).1⟩, fun k h1 h2 => a7 k (.inl h1) h2, fun k hk => (a9 k hk).2, fun k hk => hk⟩, a2, fun k hk hg => ?_, fun k hk => ?_, fun k hk => a8 k (.inr hk)⟩⟩
  · rcases hk with hk | hk
    · exact a5 k hk hg
    · exact a7 k (.inr hg) hk
  · rcases hk with hk | hk
    · exact a8 k (.inl hk)
    · exact a9 k hk
theorem Four.of_two {B pd pr pe ps : Nat} {s1 s2 : St} {w : World} {Fd Fr : Nat → Prop} (h : Two (PSo PS (Pair PS B pe ps s2)) B Fd pd s1 Fr pr s1 w) : Four PS B pd pr s1 pe ps s2 w := by
  obtain ⟨⟨F1, Fo, d1, ⟨Fa, Fb, e1, e2, e3, e4, e5⟩, d3, d4, d5⟩, r, ap, dlo, rlo⟩ := h
  refine ⟨F1, Fr, Fa, Fb, d1, r, e1, e2, fun k h1 h2 => ap k (d5 k (.inl h1)) h2, e3, fun k h1 h2 => ?_, fun k hk => ?_, fun k hk => ?_⟩
  · have h3 := e4 k h2
    rcases h1 with h1 | h1
    · exact d3 k h1 h3
    · exact ap k (d5 k (.inr h3)) h1
  · rcases hk with hk | hk
    · exact dlo k (d5 k (.inl hk))
    · exact rlo k hk
  · exact dlo k (d5 k (.inr (e4 k hk)))
set_option maxHeartbeats 4000000 in
theorem one_c (C : PC0 PS) (B pd pr : Nat) (s1 : St) (pe ps : Nat) (s2 : St) (o : Opx) (w : World) (h : Four PS B pd pr s1 pe ps s2 w) (hw : Wf s1) (hB : B ≤ w.heap.size) (ho : OpOk B o w) :
    Calls Try.prog 7 #[.pointer (some ⟨pd, 0, none⟩), .pointer (some ⟨pr, 0, none⟩), o.v] w fun e w' => e = .returned (.bool true) ∧ Four PS B pd pr (s1.step o) pe ps s2 w' ∧ Below B w w' := by
  obtain ⟨ao2, cl2, cp2, hcv⟩ := ho.slice
  obtain ⟨X, hX⟩ : ∃ X, X = Obj.cells #[.int .i64 o.kind, .int .i64 o.on, .int .i64 o.n, .string o.a, .string o.b, .int .i64 o.m0, .int .i64 o.m1, .int .i64 o.m2, .int .i64 o.m3, o.cv] 31 := ⟨_, rfl⟩
  have hbA : Below w.heap.size w (w.alloc X) := (Below.refl _ w).alloc (Nat.le_refl _) X
  have hsA : (w.alloc X).heap.size = w.heap.size + 1 := by simp
  have hA := h.below C hbA
  obtain ⟨Fd, Fr, t⟩ := hA.two C
  have C' := pco (pair_same C B pe ps s2) C
  have hoA : OpOk B o (w.alloc X) := ho.below (hbA.mono hB) (Nat.le_refl _)
  have HIC : Hid (∀ w, Calls Try.prog 13 #[.int .i64 o.kind] w fun e w' => e = .returned (.bool (decide (1 ≤ o.kind ∧ o.kind ≤ 7))) ∧ w' = w) := fun w => isChange_c o.kind w
  by_cases hk : 1 ≤ o.kind ∧ o.kind ≤ 7
  · rw [decide_eq_true hk] at HIC
    have HCH : Hid (Calls Try.prog 14 #[.pointer (some ⟨pd, 0, none⟩), .pointer (some ⟨pr, 0, none⟩), o.v] (w.alloc X) fun e w' => e = .returned (.bool true) ∧ Four PS B pd pr (s1.step o) pe ps s2 w' ∧ Below B w w') := (changed_c C' B Fd pd Fr pr s1 o (w.alloc X) t hw (by omega) hoA hk).mono (by
      rintro e w' ⟨rfl, Fd', Fr', t', hb⟩
      exact ⟨rfl, Four.of_two t', (hbA.mono hB).trans hb⟩)
    obtain ⟨kind, on, nn, a, bb, m0, m1, m2, m3, cv, cuts⟩ := o
    simp only at hcv hX HIC
    subst hcv
    obtain ⟨R, hR⟩ : ∃ R, R = s1.step ⟨kind, on, nn, a, bb, m0, m1, m2, m3, .slice ao2 cl2 cp2, cuts⟩ := ⟨_, rfl⟩
    rw [← hR] at HCH ⊢
    unfold Opx.v at HCH ⊢
    simp only at HCH ⊢
    clear h hw ho hbA hsA hA t C' hoA hk hR
    subst hX
    go_enter Try.func7, Try.ntmps7
    go_wp2_with (first
      | (go_at_call 13; refine (HIC.out _).mono ?_; rintro e w3 ⟨rfl, hw3⟩; subst w3)
      | (go_at_call 14; refine HCH.out.mono ?_; rintro e w3 ⟨rfl, hp3, hb3⟩))
    go_ret
    exact ⟨rfl, hp3, hb3⟩
  · rw [decide_eq_false hk] at HIC
    have HCH : Hid (Calls Try.prog 15 #[.pointer (some ⟨pd, 0, none⟩), .pointer (some ⟨pr, 0, none⟩), o.v] (w.alloc X) fun e w' => e = .returned (.bool true) ∧ Four PS B pd pr (s1.step o) pe ps s2 w' ∧ Below B w w') := (asked_c C' B Fd pd Fr pr s1 o (w.alloc X) t hw (by omega) hoA).mono (by
      rintro e w' ⟨rfl, t', hb⟩
      rw [step_other _ _ hk]
      exact ⟨rfl, Four.of_two t', (hbA.mono hB).trans hb⟩)
    obtain ⟨kind, on, nn, a, bb, m0, m1, m2, m3, cv, cuts⟩ := o
    simp only at hcv hX HIC
    subst hcv
    obtain ⟨R, hR⟩ : ∃ R, R = s1.step ⟨kind, on, nn, a, bb, m0, m1, m2, m3, .slice ao2 cl2 cp2, cuts⟩ := ⟨_, rfl⟩
    rw [← hR] at HCH ⊢
    unfold Opx.v at HCH ⊢
    simp only at HCH ⊢
    clear h hw ho hbA hsA hA t C' hoA hk hR
    subst hX
    go_enter Try.func7, Try.ntmps7
    go_wp2_with (first
      | (go_at_call 13; refine (HIC.out _).mono ?_; rintro e w3 ⟨rfl, hw3⟩; subst w3)
      | (go_at_call 15; refine HCH.out.mono ?_; rintro e w3 ⟨rfl, hp3, hb3⟩))
    go_ret
    exact ⟨rfl, hp3, hb3⟩
end Go.Proofs.Ytodjgbmfmpbkjac
