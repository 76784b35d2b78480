
-- The document's edges, plainly: they are the same.
import Derived.Test.YtiedimmbcmpfbaaRA
namespace Go.Proofs.Ytiedimmbcmpfbaa
open Go.ChangeShapes Go.WideShapes Go.ChangeAt Go.RowKit Go.MapKept
set_option linter.unusedVariables false
set_option maxRecDepth 100000
def putR (Ns : List No) (k : Nat) (nm y : ByteArray) (o : List Ed) (j : Nat) : List Ed := match Ns[j]? with
  | some M => if j ≠ k ∧ isIn M.df y = true then addD o (nm, M.nm) else o
  | none => o
def oneR (Ns : List No) (k : Nat) (nm : ByteArray) (o : List Ed) (y : ByteArray) : List Ed := (List.range Ns.length).foldl (putR Ns k nm y) o
def nodeR (Ns : List No) (o : List Ed) (k : Nat) : List Ed := match Ns[k]? with
  | some N => N.nd.foldl (oneR Ns k N.nm) (addD o (N.nm, N.nm))
  | none => o
def edgesR (Ns : List No) (k : Nat) : List Ed := (List.range k).foldl (nodeR Ns) []
theorem edgesR_succ (Ns : List No) (k : Nat) : edgesR Ns (k + 1) = nodeR Ns (edgesR Ns k) k := by
  unfold edgesR
  rw [List.range_succ, List.foldl_append]
  rfl
theorem one_upto (Ns : List No) (k : Nat) (nm y : ByteArray) (o : List Ed) : ∀ m, m ≤ Ns.length → (List.range m).foldl (putR Ns k nm y) o = (defK Ns m y).foldl (putP Ns k nm) o := by
  intro m
  induction m with
  | zero => intro _; rfl
  | succ m ih =>
    intro hm
    obtain ⟨M, hM⟩ : ∃ x, Ns[m]? = some x := ⟨_, List.getElem?_eq_getElem (by omega)⟩
    rw [List.range_succ, List.foldl_append, ih (by omega), defK_succ hM]
    show putR Ns k nm y _ m = _
    unfold putR
    rw [hM]
    cases hi : isIn M.df y with
    | false =>
      simp [hi]
    | true =>
      simp only [if_true, List.foldl_append, List.foldl_cons, List.foldl_nil]
      generalize (defK Ns m y).foldl (putP Ns k nm) o = q
      unfold putP
      rw [nmI_of hM]
      by_cases e : m = k
      · rw [if_neg (fun h => h.1 e), if_pos (by rw [e])]
      · rw [if_pos ⟨e, hi⟩, if_neg (by omega)]
theorem one_eq (Ns : List No) (k : Nat) (nm : ByteArray) (o : List Ed) (y : ByteArray) : oneR Ns k nm o y = oneP Ns k nm o y := one_upto Ns k nm y o _ (Nat.le_refl _)
theorem mem_foldP {Ns : List No} {k : Nat} {nm : ByteArray} (l : List Int) : ∀ {o : List Ed} {e : Ed}, e ∈ l.foldl (putP Ns k nm) o ↔ e ∈ o ∨ ∃ i ∈ l, i ≠ (k : Int) ∧ e = (nm, nmI Ns i) := by
  induction l with
  | nil => intro o e; simp
  | cons x r ih =>
    intro o e
    rw [List.foldl_cons, ih]
    have hx : e ∈ putP Ns k nm o x ↔ e ∈ o ∨ (x ≠ (k : Int) ∧ e = (nm, nmI Ns x)) := by
      unfold putP
      by_cases hk : x = (k : Int)
      · rw [if_pos hk]; simp [hk]
      · rw [if_neg hk, mem_addD]; simp [hk]
    rw [hx]
    constructor
    · rintro ((q | q) | ⟨i, q1, q2⟩)
      · exact .inl q
      · exact .inr ⟨x, List.mem_cons_self, q⟩
      · exact .inr ⟨i, List.mem_cons_of_mem _ q1, q2⟩
    · rintro (q | ⟨i, q1, q2⟩)
      · exact .inl (.inl q)
      · rcases List.mem_cons.1 q1 with rfl | q1
        · exact .inl (.inr q2)
        · exact .inr ⟨i, q1, q2⟩
theorem fix_foldP {Ns : List No} {k : Nat} {nm : ByteArray} (l : List Int) {o : List Ed} (h : ∀ i ∈ l, i ≠ (k : Int) → (nm, nmI Ns i) ∈ o) : l.foldl (putP Ns k nm) o = o := by
  induction l with
  | nil => rfl
  | cons x r ih =>
    have hx : putP Ns k nm o x = o := by
      unfold putP
      by_cases hk : x = (k : Int)
      · rw [if_pos hk]
      · rw [if_neg hk]; unfold addD; rw [if_pos (isIn_iff.2 (h x List.mem_cons_self hk))]
    rw [List.foldl_cons, hx]
    exact ih (fun i hi => h i (List.mem_cons_of_mem _ hi))
theorem fold_full {α β : Type} [DecidableEq β] (f : List α → β → List α) (h1 : ∀ o y, f (f o y) y = f o y) (h2 : ∀ o y z, f o y = o → f (f o z) y = f o z) : ∀ (L : List β) (o : List α) (x : β), x ∈ L → f (L.foldl f o) x = L.foldl f o := by
  have keep : ∀ (L : List β) (o : List α) (x : β), f o x = o → f (L.foldl f o) x = L.foldl f o := by
    intro L
    induction L with
    | nil => intro o x h; exact h
    | cons y r ih => intro o x h; rw [List.foldl_cons]; exact ih _ x (h2 o x y h)
  intro L
  induction L with
  | nil => intro o x h; cases h
  | cons y r ih =>
    intro o x h
    rw [List.foldl_cons]
    rcases List.mem_cons.1 h with rfl | h
    · exact keep r _ x (h1 o x)
    · exact ih _ x h
theorem fold_ded {α β : Type} [DecidableEq β] (f : List α → β → List α) (h1 : ∀ o y, f (f o y) y = f o y) (h2 : ∀ o y z, f o y = o → f (f o z) y = f o z) : ∀ (M L : List β) (o : List α), (M.foldl addD L).foldl f o = M.foldl f (L.foldl f o) := by
  intro M
  induction M with
  | nil => intro L o; rfl
  | cons x r ih =>
    intro L o
    rw [List.foldl_cons, List.foldl_cons, ih]
    congr 1
    unfold addD
    split
    · next h => exact (fold_full f h1 h2 L o x (isIn_iff.1 h)).symm
    · rw [List.foldl_append]; rfl
theorem node_eq (Ns : List No) (o : List Ed) (k : Nat) : nodeR Ns o k = nodeP Ns o k := by
  unfold nodeR nodeP
  cases hN : Ns[k]? with
  | none => rfl
  | some N =>
    have e : oneR Ns k N.nm = oneP Ns k N.nm := funext fun o => funext fun y => one_eq Ns k N.nm o y
    simp only
    rw [e]
    have hm : ∀ {o : List Ed} {y : ByteArray} {e : Ed}, e ∈ oneP Ns k N.nm o y ↔ e ∈ o ∨ ∃ i ∈ defK Ns Ns.length y, i ≠ (k : Int) ∧ e = (N.nm, nmI Ns i) := fun {o y e} => mem_foldP _
    have h1 : ∀ o y, oneP Ns k N.nm (oneP Ns k N.nm o y) y = oneP Ns k N.nm o y := fun o y => fix_foldP _ (fun i hi hk => hm.2 (.inr ⟨i, hi, hk, rfl⟩))
    have h2 : ∀ o y z, oneP Ns k N.nm o y = o → oneP Ns k N.nm (oneP Ns k N.nm o z) y = oneP Ns k N.nm o z := fun o y z h => fix_foldP _ (fun i hi hk => hm.2 (.inl (by rw [← h]; exact hm.2 (.inr ⟨i, hi, hk, rfl⟩))))
    have := fold_ded (oneP Ns k N.nm) h1 h2 N.nd [] (addD o (N.nm, N.nm))
    exact this.symm
theorem edges_eq (Ns : List No) (k : Nat) : edgesR Ns k = edgesP Ns k := by
  unfold edgesR edgesP
  have : nodeR Ns = nodeP Ns := funext fun o => funext fun k => node_eq Ns o k
  rw [this]
end Go.Proofs.Ytiedimmbcmpfbaa
