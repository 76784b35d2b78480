
-- A library in memory; hasMember, namesOf.
import Derived.Test.YtnnpdomfkedhpaaPM
namespace Go.Proofs.Ytnnpdomfkedhpaa
open Go.ChangeShapes Go.WideShapes Go.ChangeAt Go.RowKit Go.MapKept
set_option linter.unusedVariables false
set_option maxRecDepth 100000
/-- an entry -/
def enL (x : ByteArray × Int) : List Value := [.string x.1, .int .i64 x.2]
theorem enL_len (x : ByteArray × Int) : (enL x).length = 2 := rfl
theorem enL_one : ∀ x, ∀ u ∈ enL x, u.oneCell' = true := by
  intro x u hu
  simp only [enL, List.mem_cons, List.not_mem_nil, or_false] at hu
  rcases hu with rfl | rfl <;> rfl
theorem RowG.en {w : World} {v : Value} {L : List (ByteArray × Int)} {k : Nat} {x : ByteArray × Int} (h : RowG enL w v L) (hx : L[k]? = some x) : ∃ b off cap, v = .slice (some ⟨b, off, none⟩) L.length cap ∧ w.cell? ⟨b, off + k * 2, none⟩ = some (.string x.1) ∧ w.cell? ⟨b, off + k * 2 + 1, none⟩ = some (.int .i64 x.2) := by
  obtain ⟨b, off, cap, e, _, _, hc⟩ := RowG.at enL_len h hx
  exact ⟨b, off, cap, e, hc 0 _ rfl, hc 1 _ rfl⟩
theorem elE : El enL 2 47 42 24 := ⟨Try.underlying42, ⟨.agg #[.string ⟨#[]⟩, .int .i64 0], by kernel_rfl, rfl⟩, enL_len, by decide⟩
/-- a value of one cell -/
def vaL (x : Value) : List Value := [x]
theorem vaL_len (x : Value) : (vaL x).length = 1 := rfl
theorem RowG.va {w : World} {v : Value} {L : List Value} {k : Nat} {x : Value} (h : RowG vaL w v L) (hx : L[k]? = some x) : ∃ b off cap, v = .slice (some ⟨b, off, none⟩) L.length cap ∧ w.cell? ⟨b, off + k, none⟩ = some x := by
  obtain ⟨b, off, cap, e, _, _, hc⟩ := RowG.at vaL_len h hx
  have := hc 0 _ rfl
  rw [Nat.mul_one] at this
  exact ⟨b, off, cap, e, this⟩
theorem elL : El vaL 1 23 43 24 := ⟨Try.underlying43, ⟨.slice none 0 0, by kernel_rfl, rfl⟩, vaL_len, by decide⟩
/-- a list of lists of names -/
def RowLL (F : Nat → Prop) (w : World) (v : Value) (LL : List (List ByteArray)) : Prop :=
  ∃ vs : List Value, RowN F vaL w v vs ∧ vs.length = LL.length ∧ ∀ (i : Nat) (u : Value) (l : List ByteArray), vs[i]? = some u → LL[i]? = some l → RowN F txL w u l
theorem RowLL.kp {F : Nat → Prop} {w w' : World} {v : Value} {LL : List (List ByteArray)} (h : RowLL F w v LL) (hk : Kp F w w') : RowLL F w' v LL := by
  obtain ⟨vs, h1, h2, h3⟩ := h
  exact ⟨vs, h1.kp hk, h2, fun i u l hu hl => (h3 i u l hu hl).kp hk⟩
theorem RowLL.weak {F G : Nat → Prop} {w : World} {v : Value} {LL : List (List ByteArray)} (h : RowLL F w v LL) (hg : ∀ b, b < w.heap.size → G b → F b) : RowLL G w v LL := by
  obtain ⟨vs, h1, h2, h3⟩ := h
  exact ⟨vs, h1.weak hg (by decide) vaL_len, h2, fun i u l hu hl => (h3 i u l hu hl).weak hg (by decide) txL_len⟩
structure LibAt (F : Nat → Prop) (w : World) (ve va vn vf vg : Value) (L : Lb) : Prop where
  e : RowN F enL w ve L.e
  a : RowN F nmL w va L.a
  n : RowN F txL w vn L.n
  f : RowLL F w vf L.df
  g : RowLL F w vg L.nd
theorem LibAt.kp {F : Nat → Prop} {w w' : World} {ve va vn vf vg : Value} {L : Lb} (h : LibAt F w ve va vn vf vg L) (hk : Kp F w w') : LibAt F w' ve va vn vf vg L := ⟨h.e.kp hk, h.a.kp hk, h.n.kp hk, h.f.kp hk, h.g.kp hk⟩
theorem LibAt.weak {F G : Nat → Prop} {w : World} {ve va vn vf vg : Value} {L : Lb} (h : LibAt F w ve va vn vf vg L) (hg : ∀ b, b < w.heap.size → G b → F b) : LibAt G w ve va vn vf vg L :=
  ⟨h.e.weak hg (by decide) enL_len, h.a.weak hg (by decide) nmL_len, h.n.weak hg (by decide) txL_len, h.f.weak hg, h.g.weak hg⟩
theorem RowN.nil {F : Nat → Prop} {α : Type} {c : α → List Value} {w : World} : RowN F c w (.slice none 0 0) ([] : List α) := ⟨none, 0, rfl, Nat.le_refl _, by decide, fun _ => rfl, fun h => by simp at h⟩
set_option maxHeartbeats 1000000 in
theorem names_c (F : Nat → Prop) (v : Value) (LL : List (List ByteArray)) (k : Nat) (w : World) (h : RowLL F w v LL) :
    Calls Try.prog 30 #[v, .int .i64 k] w fun e w' => ∃ u, e = .returned u ∧ RowN F txL w u (LL.getD k []) ∧ w' = w := by
  obtain ⟨vs, h1, h2, h3⟩ := h
  obtain ⟨ao, cap, q1, _, _⟩ := h1.row.form
  obtain ⟨n, hn⟩ : ∃ n, n = vs.length := ⟨_, rfl⟩
  have h0 := h1
  rw [← hn] at q1
  subst q1
  by_cases hk : k < n
  · obtain ⟨u, hu⟩ : ∃ u, vs[k]? = some u := ⟨_, List.getElem?_eq_getElem (by omega)⟩
    obtain ⟨l, hl⟩ : ∃ l, LL[k]? = some l := ⟨_, List.getElem?_eq_getElem (by omega)⟩
    obtain ⟨b1, o1, p1, e1, d0⟩ := h1.row.va hu
    injection e1 with e1 e1b e1c
    subst e1
    have HR : Hid (RowN F txL w u (LL.getD k [])) := by
      have := h3 k u l hu hl
      rwa [List.getD_eq_getElem?_getD, hl]
    have kI : (k : Int) < (n : Int) := by omega
    have k0 : (0 : Int) ≤ (k : Int) := by omega
    clear h1 h2 h3 h0 hu hl e1b e1c hn
    go_enter Try.func30, Try.ntmps30
    go_wp2
    go_ret
    exact ⟨_, rfl, HR.out, rfl⟩
  · have HR : Hid (RowN F txL w (.slice none 0 0) (LL.getD k [])) := by
      have : LL.getD k [] = [] := by rw [List.getD_eq_getElem?_getD, List.getElem?_eq_none (by omega)]; rfl
      rw [this]
      exact RowN.nil
    have kI : (n : Int) ≤ (k : Int) := by omega
    clear h1 h2 h3 h0 hn
    go_enter Try.func30, Try.ntmps30
    go_wp2
    go_ret
    exact ⟨_, rfl, HR.out, rfl⟩
theorem plcF0 (A : List Int) (x : Int) : plcF A 0 x = (idx A x).map fun (i : Nat) => Value.int .i64 (i : Int) := by unfold plcF; simp
set_option maxHeartbeats 1000000 in
theorem hasMember_c (ve va vn vf vg : Value) (num x : Int) (bm : Nat) (A : List Int) (w : World) (h : MpN w bm (plcF A 0)) :
    Calls Try.prog 27 #[.agg #[ve, va, vn, vf, vg, .int .i64 num, .map (some bm)], .int .i64 x] w fun e w' => e = .returned (.bool (idx A x).isSome) ∧ Below w.heap.size w w' := by
  have hl := MpAt.look true (h.on ((Below.refl _ _).alloc (Nat.le_refl _) (.cells #[ve, va, vn, vf, vg, .int .i64 num, .map (some bm)] 69))) mapN_u keyNm isNm injNm (zeroN _) x
  rw [plcF0, Option.isSome_map] at hl
  simp only [if_true] at hl
  generalize ((idx A x).map fun (i : Nat) => Value.int .i64 (i : Int)).getD (.int .i64 0) = q at hl
  generalize (idx A x).isSome = r at hl ⊢
  clear h
  go_enter Try.func27, Try.ntmps27
  go_wp2_with (at_lookup; refine wp_look _ rfl _ _ 67 true rfl _ _ _ rfl rfl hl ?_)
  go_ret
  exact ⟨rfl, (Below.refl _ _).alloc (Nat.le_refl _) _⟩
end Go.Proofs.Ytnnpdomfkedhpaa
