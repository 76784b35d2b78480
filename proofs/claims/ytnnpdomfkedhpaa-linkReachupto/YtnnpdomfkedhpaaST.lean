
-- A map as a function of its keys.
import Derived.Test.YtnnpdomfkedhpaaMQ
namespace Go.Proofs.Ytnnpdomfkedhpaa
open Go.RowKit Go.MapKept Go.ChangeMaps
set_option linter.unusedVariables false
set_option maxRecDepth 100000
/-- block b is a map that holds just what f says -/
def MpAt {α : Type} (K : Value → Prop) (kf : α → Value) (w : World) (b : Nat) (f : α → Option Value) : Prop :=
  ∃ l, MapAt K w b l ∧ (∀ p ∈ l, ∃ x v, p = (kf x, v) ∧ f x = some v) ∧ ∀ x v, f x = some v → (kf x, v) ∈ l
section
variable {α : Type} {K : Value → Prop} {kf : α → Value} {w : World} {b : Nat} {f : α → Option Value}
theorem MpAt.keep {w' : World} (h : MpAt K kf w b f) (hk : w'.heap[b]? = w.heap[b]?) : MpAt K kf w' b f := by
  obtain ⟨l, h1, h2⟩ := h
  exact ⟨l, h1.keep hk, h2⟩
theorem MpAt.on {w' : World} (h : MpAt K kf w b f) (hb : Below w.heap.size w w') : MpAt K kf w' b f := by
  have : b < w.heap.size := by obtain ⟨l, h1, _⟩ := h; exact h1.lt
  exact h.keep (hb.block b this)
theorem MpAt.lt (h : MpAt K kf w b f) : b < w.heap.size := by obtain ⟨l, h1, _⟩ := h; exact h1.lt
theorem MpAt.kp {F : Nat → Prop} {w' : World} (h : MpAt K kf w b f) (hk : Kp F w w') (hn : ¬ F b) : MpAt K kf w' b f := h.keep (hk.block b h.lt hn)
theorem MpAt.ne_cells (h : MpAt K kf w b f) {k : Nat} {cs : Array Value} {t : TypeId} {fr : Nat × Nat} (hk : w.heap[k]? = some (.cells cs t fr)) : b ≠ k := by
  obtain ⟨l, h1, _⟩ := h; exact h1.ne_cells hk
theorem MpAt.congr {g : α → Option Value} (h : MpAt K kf w b f) (e : ∀ x, f x = g x) : MpAt K kf w b g := by
  have : f = g := funext e
  exact this ▸ h
theorem MpAt.made (K : Value → Prop) (kf : α → Value) (w : World) : MpAt K kf (w.alloc (.map #[] 0)) w.heap.size (fun _ => none) :=
  ⟨[], MapAt.made K w, by simp, by simp⟩
variable {P : Program} {t k e : TypeId}
theorem MpAt.look (c : Bool) (h : MpAt K kf w b f) (ht : P.underlying t = some (.map k e)) (hd : KeyK P k K) (hkey : ∀ x, K (kf x)) (hinj : ∀ x y, kf x = kf y → x = y) {z : Value} (hz : (zeroValue e).run P w = .ok z w) (x : α) :
    (Instr.lookup t (.map (some b)) (kf x) c).run P w = .ok (if c then .tuple #[(f x).getD z, .bool (f x).isSome] else (f x).getD z) w := by
  obtain ⟨l, h1, h2, h3⟩ := h
  cases hf : f x with
  | some v => simpa [hf] using h1.look c ht hd (hkey x) (h3 x v hf)
  | none =>
    have := h1.look_no c ht hd (hkey x) (fun p hp e => by
      obtain ⟨y, v, rfl, hy⟩ := h2 p hp
      have := hinj _ _ e
      subst this
      rw [hf] at hy; cases hy) hz
    simpa [hf] using this
theorem MpAt.split (h : MpAt K kf w b f) (hinj : ∀ x y, kf x = kf y → x = y) {x : α} {v : Value} (hf : f x = some v) : ∃ l l0, MapAt K w b l ∧ l.Perm ((kf x, v) :: l0) ∧ (∀ p ∈ l0, ∃ y u, p = (kf y, u) ∧ f y = some u ∧ y ≠ x) ∧ ∀ y u, f y = some u → y ≠ x → (kf y, u) ∈ l0 := by
  obtain ⟨l, h1, h2, h3⟩ := h
  obtain ⟨s, t, rfl⟩ := List.append_of_mem (h3 x v hf)
  have hp : (s ++ (kf x, v) :: t).Perm ((kf x, v) :: (s ++ t)) := List.perm_middle
  have hap := (h1.perm hp).apart
  refine ⟨_, s ++ t, h1, hp, fun p hpp => ?_, fun y u hy hne => ?_⟩
  · obtain ⟨y, u, rfl, hy⟩ := h2 p (hp.mem_iff.2 (.tail _ hpp))
    refine ⟨y, u, rfl, hy, fun e => ?_⟩
    subst e
    exact (List.pairwise_cons.1 hap).1 _ hpp rfl
  · have := hp.mem_iff.1 (h3 y u hy)
    rcases List.mem_cons.1 this with e | hm
    · injection e with e1 e2
      exact absurd (hinj _ _ e1) hne
    · exact hm
theorem MpAt.store [DecidableEq α] (h : MpAt K kf w b f) (ht : P.underlying t = some (.map k e)) (hd : KeyK P k K) (hkey : ∀ x, K (kf x)) (hinj : ∀ x y, kf x = kf y → x = y) (x : α) (v : Value) :
    ∃ w', (Instr.mapUpdate t (.map (some b)) (kf x) v).run P w = .ok () w' ∧ MpAt K kf w' b (fun y => if y = x then some v else f y) ∧ Turned w w' b := by
  cases hf : f x with
  | none =>
    obtain ⟨l, h1, h2, h3⟩ := h
    obtain ⟨w', r1, r2, r3⟩ := h1.store_new ht hd (hkey x) (fun p hp e => by
      obtain ⟨y, u, rfl, hy⟩ := h2 p hp
      have := hinj _ _ e
      subst this
      rw [hf] at hy; cases hy) v
    refine ⟨w', r1, ⟨_, r2, fun p hp => ?_, fun y u hy => ?_⟩, r3⟩
    · rcases List.mem_cons.1 hp with rfl | hp
      · exact ⟨x, v, rfl, by simp⟩
      · obtain ⟨y, u, rfl, hy⟩ := h2 p hp
        refine ⟨y, u, rfl, ?_⟩
        have : y ≠ x := fun e => by subst e; rw [hf] at hy; cases hy
        simp [this, hy]
    · by_cases hyx : y = x
      · subst hyx; simp at hy; subst hy; exact .head _
      · simp [hyx] at hy
        exact .tail _ (h3 y u hy)
  | some u0 =>
    obtain ⟨l, l0, h1, hp, h2, h3⟩ := h.split hinj hf
    obtain ⟨w', r1, r2, r3⟩ := h1.store_old ht hd (hkey x) hp v
    refine ⟨w', r1, ⟨_, r2, fun p hp => ?_, fun y u hy => ?_⟩, r3⟩
    · rcases List.mem_cons.1 hp with rfl | hp
      · exact ⟨x, v, rfl, by simp⟩
      · obtain ⟨y, u, rfl, hy, hne⟩ := h2 p hp
        exact ⟨y, u, rfl, by simp [hne, hy]⟩
    · by_cases hyx : y = x
      · subst hyx; simp at hy; subst hy; exact .head _
      · simp [hyx] at hy
        exact .tail _ (h3 y u hy hyx)
theorem MpAt.drop [DecidableEq α] (h : MpAt K kf w b f) (ht : P.underlying t = some (.map k e)) (hd : KeyK P k K) (hkey : ∀ x, K (kf x)) (hinj : ∀ x y, kf x = kf y → x = y) (x : α) (ty : TypeId) :
    ∃ w', (Builtin.delete_ #[t, k] ty #[.map (some b), kf x]).run P w = .ok (.tuple #[]) w' ∧ MpAt K kf w' b (fun y => if y = x then none else f y) ∧ Turned w w' b := by
  cases hf : f x with
  | none =>
    obtain ⟨l, h1, h2, h3⟩ := h
    obtain ⟨w', r1, r2, r3⟩ := h1.drop_no ht hd (hkey x) (fun p hp e => by
      obtain ⟨y, u, rfl, hy⟩ := h2 p hp
      have := hinj _ _ e
      subst this
      rw [hf] at hy; cases hy) ty
    refine ⟨w', r1, ⟨_, r2, fun p hp => ?_, fun y u hy => ?_⟩, r3⟩
    · obtain ⟨y, u, rfl, hy⟩ := h2 p hp
      have : y ≠ x := fun e => by subst e; rw [hf] at hy; cases hy
      exact ⟨y, u, rfl, by simp [this, hy]⟩
    · by_cases hyx : y = x
      · subst hyx; simp at hy
      · simp [hyx] at hy
        exact h3 y u hy
  | some u0 =>
    obtain ⟨l, l0, h1, hp, h2, h3⟩ := h.split hinj hf
    obtain ⟨w', r1, r2, r3⟩ := h1.drop ht hd (hkey x) hp ty
    refine ⟨w', r1, ⟨_, r2, fun p hp => ?_, fun y u hy => ?_⟩, r3⟩
    · obtain ⟨y, u, rfl, hy, hne⟩ := h2 p hp
      exact ⟨y, u, rfl, by simp [hne, hy]⟩
    · by_cases hyx : y = x
      · subst hyx; simp at hy
      · simp [hyx] at hy
        exact h3 y u hy hyx
end
/-- is it in the list? -/
def isIn {α : Type} [DecidableEq α] (L : List α) (x : α) : Bool := L.any (fun y => decide (y = x))
theorem isIn_iff {α : Type} [DecidableEq α] {L : List α} {x : α} : isIn L x = true ↔ x ∈ L := by
  unfold isIn; simp
theorem isIn_no {α : Type} [DecidableEq α] {L : List α} {x : α} : isIn L x = false ↔ x ∉ L := by
  rw [← isIn_iff]; simp
/-- a set -/
def setF {α : Type} [DecidableEq α] (L : List α) : α → Option Value := fun y => if isIn L y then some (.agg #[]) else none
theorem setF_some {α : Type} [DecidableEq α] (L : List α) (x : α) : (setF L x).isSome = isIn L x := by unfold setF; cases isIn L x <;> rfl
theorem setF_getD {α : Type} [DecidableEq α] (L : List α) (x : α) : (setF L x).getD (.agg #[]) = .agg #[] := by unfold setF; split <;> rfl
theorem isIn_congr {α : Type} [DecidableEq α] {L M : List α} {x : α} (h : x ∈ L ↔ x ∈ M) : isIn L x = isIn M x := by
  rw [Bool.eq_iff_iff, isIn_iff, isIn_iff, h]
theorem setF_congr {α : Type} [DecidableEq α] {L M : List α} (h : ∀ x, x ∈ L ↔ x ∈ M) (y : α) : setF L y = setF M y := by
  unfold setF; rw [isIn_congr (h y)]
theorem setF_add {α : Type} [DecidableEq α] (L : List α) (x y : α) : (if y = x then some (Value.agg #[]) else setF L y) = setF (L ++ [x]) y := by
  unfold setF
  by_cases h : y = x
  · subst h
    rw [if_pos rfl, if_pos (isIn_iff.2 (by simp))]
  · rw [if_neg h, isIn_congr (M := L ++ [x]) (by simp [h])]
/-- without a name -/
def woN {α : Type} [DecidableEq α] (L : List α) (x : α) : List α := L.filter (fun z => decide (z ≠ x))
theorem mem_woN {α : Type} [DecidableEq α] {L : List α} {x y : α} : y ∈ woN L x ↔ y ∈ L ∧ y ≠ x := by
  unfold woN; simp
theorem setF_del {α : Type} [DecidableEq α] (L : List α) (x y : α) : (if y = x then none else setF L y) = setF (woN L x) y := by
  unfold setF
  by_cases h : y = x
  · subst h
    rw [if_pos rfl, if_neg (fun e => by have := mem_woN.1 (isIn_iff.1 e); exact this.2 rfl)]
  · rw [if_neg h, isIn_congr (M := woN L x) (by rw [mem_woN]; simp [h])]
abbrev SetS := MpAt (α := ByteArray) IsSt Value.string
abbrev SetP := MpAt (α := Int × Int) IsPl plV
abbrev MpN := MpAt (α := Int) IsNm (Value.int .i64)
theorem isSt (x : ByteArray) : IsSt (.string x) := trivial
theorem isNm (x : Int) : IsNm (.int .i64 x) := rfl
theorem isPl (x : Int × Int) : IsPl (plV x) := ⟨x, rfl⟩
theorem injSt (x y : ByteArray) (h : Value.string x = Value.string y) : x = y := by injection h
theorem injNm (x y : Int) (h : Value.int .i64 x = Value.int .i64 y) : x = y := by injection h
theorem injPl (x y : Int × Int) (h : plV x = plV y) : x = y := plV_inj h
end Go.Proofs.Ytnnpdomfkedhpaa
