
-- The edges, plainly.
import Derived.Test.YtiedimmbcmpfbaaDE
namespace Go.Proofs.Ytiedimmbcmpfbaa
open Go.ChangeShapes Go.WideShapes Go.ChangeAt Go.RowKit Go.MapKept
set_option linter.unusedVariables false
set_option maxRecDepth 100000
theorem nodup_le {α : Type} [DecidableEq α] : ∀ (L M : List α), L.Nodup → (∀ x ∈ L, x ∈ M) → L.length ≤ M.length := by
  intro L
  induction L with
  | nil => intro M _ _; simp
  | cons x r ih =>
    intro M h hm
    rw [List.nodup_cons] at h
    have h1 := hm x (List.mem_cons_self)
    have h2 := ih (M.erase x) h.2 (fun y hy => (List.mem_erase_of_ne (fun e : y = x => h.1 (by rw [← e]; exact hy))).2 (hm y (List.mem_cons_of_mem _ hy)))
    have h3 := List.length_erase_of_mem h1
    have h4 : 0 < M.length := List.length_pos_of_mem h1
    simp only [List.length_cons]
    omega
theorem pairs_len (m : List ByteArray) : ∀ l : List ByteArray, (l.flatMap fun a => m.map fun b => (a, b)).length = l.length * m.length := by
  intro l
  induction l with
  | nil => simp
  | cons x r ih => rw [List.flatMap_cons, List.length_append, ih, List.length_map, List.length_cons, Nat.add_mul]; omega
def nmI (Ns : List No) (i : Int) : ByteArray := match Ns[i.toNat]? with
  | some N => N.nm
  | none => ⟨#[]⟩
def putP (Ns : List No) (k : Nat) (nm : ByteArray) (o : List Ed) (i : Int) : List Ed := if i = (k : Int) then o else addD o (nm, nmI Ns i)
def oneP (Ns : List No) (k : Nat) (nm : ByteArray) (o : List Ed) (y : ByteArray) : List Ed := (defK Ns Ns.length y).foldl (putP Ns k nm) o
def nodeP (Ns : List No) (o : List Ed) (k : Nat) : List Ed := match Ns[k]? with
  | some N => (dedD N.nd).foldl (oneP Ns k N.nm) (addD o (N.nm, N.nm))
  | none => o
def edgesP (Ns : List No) (k : Nat) : List Ed := (List.range k).foldl (nodeP Ns) []
/-- edges between names of nodes, none twice -/
structure Eok (Ns : List No) (o : List Ed) : Prop where
  nd : o.Nodup
  mem : ∀ e ∈ o, e.1 ∈ Ns.map No.nm ∧ e.2 ∈ Ns.map No.nm
theorem Eok.len {Ns : List No} {o : List Ed} (h : Eok Ns o) (hn : Ns.length ≤ 1048576) : o.length ≤ 1099511627776 := by
  have h1 := nodup_le o ((Ns.map No.nm).flatMap fun a => (Ns.map No.nm).map fun b => (a, b)) h.nd (fun e he => by
    obtain ⟨h1, h2⟩ := h.mem e he
    exact List.mem_flatMap.2 ⟨e.1, h1, List.mem_map.2 ⟨e.2, h2, rfl⟩⟩)
  have h2 : ((Ns.map No.nm).flatMap fun a => (Ns.map No.nm).map fun b => (a, b)).length = Ns.length * Ns.length := by
    rw [pairs_len]
    simp
  have h3 : Ns.length * Ns.length ≤ 1048576 * 1048576 := Nat.mul_le_mul hn hn
  omega
theorem Eok.nil (Ns : List No) : Eok Ns [] := ⟨by simp, by simp⟩
theorem Eok.add {Ns : List No} {o : List Ed} (h : Eok Ns o) {e : Ed} (h1 : e.1 ∈ Ns.map No.nm) (h2 : e.2 ∈ Ns.map No.nm) : Eok Ns (addD o e) :=
  ⟨nodup_addD e h.nd, fun x hx => by
    rcases mem_addD.1 hx with q | q
    · exact h.mem x q
    · subst q; exact ⟨h1, h2⟩⟩
theorem nm_mem {Ns : List No} {k : Nat} {N : No} (h : Ns[k]? = some N) : N.nm ∈ Ns.map No.nm := List.mem_map.2 ⟨N, List.mem_of_getElem? h, rfl⟩
theorem defK_mem {Ns : List No} {k : Nat} {y : ByteArray} {i : Int} (h : i ∈ defK Ns k y) (hk : k ≤ Ns.length) : ∃ (m : Nat) (N : No), i = (m : Int) ∧ m < k ∧ Ns[m]? = some N ∧ y ∈ N.df := by
  unfold defK at h
  obtain ⟨m, hm, e⟩ := List.mem_map.1 h
  rw [List.mem_filter, List.mem_range] at hm
  obtain ⟨N, hN⟩ : ∃ x, Ns[m]? = some x := ⟨_, List.getElem?_eq_getElem (by omega)⟩
  refine ⟨m, N, e.symm, hm.1, hN, ?_⟩
  have h2 := hm.2
  rw [hN] at h2
  exact isIn_iff.1 h2
theorem nmI_of {Ns : List No} {m : Nat} {N : No} (h : Ns[m]? = some N) : nmI Ns (m : Int) = N.nm := by
  unfold nmI
  rw [Int.toNat_natCast, h]
theorem Eok.put {Ns : List No} {k : Nat} {N : No} {o : List Ed} (h : Eok Ns o) (hN : Ns[k]? = some N) {y : ByteArray} {i : Int} (hi : i ∈ defK Ns Ns.length y) : Eok Ns (putP Ns k N.nm o i) := by
  unfold putP
  split
  · exact h
  · obtain ⟨m, M, rfl, hm, hM, _⟩ := defK_mem hi (Nat.le_refl _)
    rw [nmI_of hM]
    exact h.add (nm_mem hN) (nm_mem hM)
theorem Eok.fold {Ns : List No} {k : Nat} {N : No} (hN : Ns[k]? = some N) {y : ByteArray} : ∀ (l : List Int), (∀ i ∈ l, i ∈ defK Ns Ns.length y) → ∀ {o : List Ed}, Eok Ns o → Eok Ns (l.foldl (putP Ns k N.nm) o) := by
  intro l
  induction l with
  | nil => intro _ o h; exact h
  | cons x r ih => intro hl o h; rw [List.foldl_cons]; exact ih (fun i hi => hl i (List.mem_cons_of_mem _ hi)) (h.put hN (hl x List.mem_cons_self))
theorem Eok.ones {Ns : List No} {k : Nat} {N : No} (hN : Ns[k]? = some N) : ∀ (l : List ByteArray) {o : List Ed}, Eok Ns o → Eok Ns (l.foldl (oneP Ns k N.nm) o) := by
  intro l
  induction l with
  | nil => intro o h; exact h
  | cons x r ih => intro o h; rw [List.foldl_cons]; exact ih (Eok.fold hN _ (fun i hi => hi) h)
theorem Eok.node {Ns : List No} {o : List Ed} (h : Eok Ns o) (k : Nat) : Eok Ns (nodeP Ns o k) := by
  unfold nodeP
  cases hN : Ns[k]? with
  | none => exact h
  | some N => exact Eok.ones hN _ (h.add (nm_mem hN) (nm_mem hN))
theorem edgesP_succ (Ns : List No) (k : Nat) : edgesP Ns (k + 1) = nodeP Ns (edgesP Ns k) k := by
  unfold edgesP
  rw [List.range_succ, List.foldl_append]
  rfl
theorem edgesP_ok (Ns : List No) (k : Nat) : Eok Ns (edgesP Ns k) := by
  induction k with
  | zero => exact Eok.nil Ns
  | succ k ih => rw [edgesP_succ]; exact ih.node k
end Go.Proofs.Ytiedimmbcmpfbaa
