
-- Nodes in memory; who defines a name.
import Derived.Test.YtiedimmbcmpfbaaDC
namespace Go.Proofs.Ytiedimmbcmpfbaa
open Go.ChangeShapes Go.WideShapes Go.ChangeAt Go.RowKit Go.MapKept
set_option linter.unusedVariables false
set_option maxRecDepth 100000
abbrev Sl := Option Addr × Nat × Nat
def slV (s : Sl) : Value := .slice s.1 s.2.1 s.2.2
structure Nv where
  nm : ByteArray
  d : Sl
  n : Sl
structure No where
  nm : ByteArray
  df : List ByteArray
  nd : List ByteArray
def noL (x : Nv) : List Value := [.string x.nm, slV x.d, slV x.n]
theorem noL_len (x : Nv) : (noL x).length = 3 := rfl
theorem noL_one : ∀ x, ∀ u ∈ noL x, u.oneCell' = true := by
  intro x u hu
  simp only [noL, List.mem_cons, List.not_mem_nil, or_false] at hu
  rcases hu with rfl | rfl | rfl <;> rfl
theorem elN : El noL 3 29 22 64 := ⟨Try.underlying22, ⟨.agg #[.string ⟨#[]⟩, .slice none 0 0, .slice none 0 0], by kernel_rfl, rfl⟩, noL_len, by decide⟩
theorem RowG.no {w : World} {v : Value} {L : List Nv} {k : Nat} {x : Nv} (h : RowG noL w v L) (hx : L[k]? = some x) : ∃ b off cap, v = .slice (some ⟨b, off, none⟩) L.length cap ∧ w.cell? ⟨b, off + k * 3, none⟩ = some (.string x.nm) ∧ w.cell? ⟨b, off + k * 3 + 1, none⟩ = some (slV x.d) ∧ w.cell? ⟨b, off + k * 3 + 2, none⟩ = some (slV x.n) := by
  obtain ⟨b, off, cap, e, _, _, hc⟩ := RowG.at noL_len h hx
  exact ⟨b, off, cap, e, hc 0 _ rfl, hc 1 _ rfl, hc 2 _ rfl⟩
/-- a list of nodes, in blocks that are none of F -/
structure NodesAt (F : Nat → Prop) (w : World) (v : Value) (vs : List Nv) (Ns : List No) : Prop where
  row : RowN F noL w v vs
  len : vs.length = Ns.length
  at_ : ∀ (i : Nat) (x : Nv) (N : No), vs[i]? = some x → Ns[i]? = some N → x.nm = N.nm ∧ RowN F txL w (slV x.d) N.df ∧ RowN F txL w (slV x.n) N.nd
theorem NodesAt.kp {F : Nat → Prop} {w w' : World} {v : Value} {vs : List Nv} {Ns : List No} (h : NodesAt F w v vs Ns) (hk : Kp F w w') : NodesAt F w' v vs Ns :=
  ⟨h.row.kp hk, h.len, fun i x N h1 h2 => ⟨(h.at_ i x N h1 h2).1, (h.at_ i x N h1 h2).2.1.kp hk, (h.at_ i x N h1 h2).2.2.kp hk⟩⟩
theorem NodesAt.below {w w' : World} {v : Value} {vs : List Nv} {Ns : List No} (h : NodesAt (fun b => w.heap.size ≤ b) w v vs Ns) (hb : Below w.heap.size w w') : NodesAt (fun b => w.heap.size ≤ b) w' v vs Ns :=
  h.kp (Kp.of_below hb)
theorem NodesAt.weak {F G : Nat → Prop} {w : World} {v : Value} {vs : List Nv} {Ns : List No} (h : NodesAt F w v vs Ns) (hg : ∀ b, b < w.heap.size → G b → F b) : NodesAt G w v vs Ns :=
  ⟨h.row.weak hg (by decide) noL_len, h.len, fun i x N h1 h2 => ⟨(h.at_ i x N h1 h2).1, (h.at_ i x N h1 h2).2.1.weak hg (by decide) txL_len, (h.at_ i x N h1 h2).2.2.weak hg (by decide) txL_len⟩⟩
/-- what a call that turns new blocks alone leaves of them -/
theorem NodesAt.on {F : Nat → Prop} {w w' : World} {v : Value} {vs : List Nv} {Ns : List No} (h : NodesAt F w v vs Ns) (hb : Below w.heap.size w w') : NodesAt (fun b => w'.heap.size ≤ b) w' v vs Ns :=
  ((h.weak (G := fun b => w.heap.size ≤ b) (fun b h1 h2 => absurd h2 (by omega))).kp (Kp.of_below hb)).weak (fun b h1 h2 => absurd h2 (by omega))
/-- a map from names to lists of numbers, each list of its own -/
def DfAt (F : Nat → Prop) (w : World) (b : Nat) (D : ByteArray → List Int) : Prop :=
  ∃ f : ByteArray → Option Sl, MpAt IsSt Value.string w b (fun x => (f x).map slV) ∧ (∀ x s, f x = some s → OwnF F nmL 1 3 w (slV s) (D x)) ∧ (∀ x, f x = none → D x = []) ∧ (∀ x y s t, f x = some s → f y = some t → x ≠ y → ∀ k, (slV s).ownBlock = some k → (slV t).ownBlock ≠ some k) ∧ F b
section
variable {F G : Nat → Prop} {w w' : World} {b : Nat} {D : ByteArray → List Int}
theorem DfAt.into (h : DfAt F w b D) (hg : ∀ k, k < w.heap.size → F k → G k) : DfAt G w b D := by
  obtain ⟨f, h1, h2, h3, h4, h5⟩ := h
  exact ⟨f, h1, fun x s hs => ⟨(h2 x s hs).1, fun g hk => hg g ((h2 x s hs).lt g hk) ((h2 x s hs).2 g hk)⟩, h3, h4, hg b h1.lt h5⟩
theorem DfAt.on (h : DfAt F w b D) (hb : Below w.heap.size w w') : DfAt F w' b D := by
  obtain ⟨f, h1, h2, h3, h4, h5⟩ := h
  exact ⟨f, h1.on hb, fun x s hs => (h2 x s hs).on hb, h3, h4, h5⟩
theorem DfAt.kp (h : DfAt F w b D) (hk : Kp G w w') (hn : ∀ k, F k → k < w.heap.size → ¬ G k) : DfAt F w' b D := by
  obtain ⟨f, h1, h2, h3, h4, h5⟩ := h
  exact ⟨f, h1.kp hk (hn b h5 h1.lt), fun x s hs => (h2 x s hs).kp hk (fun g hg => hn g ((h2 x s hs).2 g hg) ((h2 x s hs).lt g hg)), h3, h4, h5⟩
theorem DfAt.congr {E : ByteArray → List Int} (h : DfAt F w b D) (e : ∀ x, D x = E x) : DfAt F w b E := by
  have : D = E := funext e
  exact this ▸ h
/-- a name looked up -/
theorem DfAt.look (h : DfAt F w b D) (x : ByteArray) : ∃ s : Sl, (Instr.lookup 33 (.map (some b)) (.string x) false).run Try.prog w = .ok (slV s) w ∧ OwnF F nmL 1 3 w (slV s) (D x) ∧ s.2.1 = (D x).length := by
  obtain ⟨f, h1, h2, h3, h4, h5⟩ := h
  have hl := MpAt.look false h1 mapD_u keySt isSt injSt (zeroLI w) x
  cases hf : f x with
  | none =>
    refine ⟨(none, 0, 0), ?_, ?_, ?_⟩
    · rw [hl, hf]; rfl
    · rw [h3 x hf]; exact OwnF.nil
    · rw [h3 x hf]; rfl
  | some s =>
    have ho := h2 x s hf
    refine ⟨s, ?_, ho, ?_⟩
    · rw [hl, hf]; rfl
    · obtain ⟨a, c, e, _⟩ := ho.form
      unfold slV at e
      injection e with _ e2 _
/-- a number put to a name's list -/
theorem DfAt.put {v' : Sl} {W w1 : World} {x : ByteArray} {M : List Int} (h : DfAt F W b D) {s : Sl} (hrun : (Instr.lookup 33 (.map (some b)) (.string x) false).run Try.prog W = .ok (slV s) W) (hk : Kp (fun k => (slV s).ownBlock = some k) W w1) (ho : OwnF F nmL 1 3 w1 (slV v') M) (hl : ∀ g, (slV v').ownBlock = some g → (slV s).ownBlock = some g ∨ W.heap.size ≤ g) :
    ∃ w2, (Instr.mapUpdate 33 (.map (some b)) (.string x) (slV v')).run Try.prog w1 = .ok () w2 ∧ DfAt F w2 b (fun y => if y = x then M else D y) ∧ Kp F W w2 := by
  obtain ⟨f, h1, h2, h3, h4, h5⟩ := h
  have hlk := MpAt.look false h1 mapD_u keySt isSt injSt (zeroLI W) x
  rw [hrun] at hlk
  have hs : slV s = ((f x).map slV).getD (.slice none 0 0) := by
    simp only [Bool.false_eq_true, if_false] at hlk
    injection hlk
  have hsb : ∀ k, (slV s).ownBlock = some k → ∃ t, f x = some t ∧ (slV t).ownBlock = some k := by
    intro k hk1
    cases hf : f x with
    | none => rw [hs, hf] at hk1; simp [Value.ownBlock] at hk1
    | some t => rw [hs, hf] at hk1; exact ⟨t, rfl, hk1⟩
  have hbs : ∀ k, (slV s).ownBlock = some k → ∃ cs, W.heap[k]? = some (.cells cs 3 (0, 0)) := by
    intro k hk1
    obtain ⟨t, ht, htk⟩ := hsb k hk1
    exact (h2 x t ht).typed htk
  have hFs : ∀ k, (slV s).ownBlock = some k → F k := by
    intro k hk1
    obtain ⟨t, ht, htk⟩ := hsb k hk1
    exact (h2 x t ht).2 k htk
  have hnb : ¬ (slV s).ownBlock = some b := by
    intro e
    obtain ⟨cs, hc⟩ := hbs b e
    exact h1.ne_cells hc rfl
  have hm1 := h1.kp hk hnb
  obtain ⟨w2, hr2, hm2, ht2⟩ := MpAt.store hm1 mapD_u keySt isSt injSt x (slV v')
  have hk2 : Kp (fun k => k = b) w1 w2 := ht2.kp rfl
  have hnv : ∀ g, (slV v').ownBlock = some g → g ≠ b := by
    intro g hg e
    obtain ⟨cs, hc⟩ := ho.typed hg
    exact hm1.ne_cells hc e.symm
  refine ⟨w2, hr2, ⟨fun y => if y = x then some v' else f y, ?_, ?_, ?_, ?_, h5⟩, (hk.weak hFs).trans (hk2.weak (fun k e => e ▸ h5))⟩
  · refine hm2.congr fun y => ?_
    by_cases hy : y = x <;> simp [hy]
  · intro y t hy
    by_cases hyx : y = x
    · simp only [hyx, if_true] at hy ⊢
      injection hy with hy
      subst hy
      exact ho.kp hk2 hnv
    · simp only [hyx, if_false] at hy ⊢
      have q := h2 y t hy
      have q1 : OwnF F nmL 1 3 w1 (slV t) (D y) := q.kp hk (fun g hg e => by
        obtain ⟨u, hu, huk⟩ := hsb g e
        exact h4 x y u t hu hy (fun e => hyx e.symm) g huk hg)
      exact q1.kp hk2 (fun g hg e => by
        obtain ⟨cs, hc⟩ := q.typed hg
        exact h1.ne_cells hc e.symm)
  · intro y hy
    by_cases hyx : y = x
    · simp [hyx] at hy
    · simp only [hyx, if_false] at hy ⊢
      exact h3 y hy
  · intro y z t u hy hz hyz k hk1 hk3
    have key : ∀ y t, (if y = x then some v' else f y) = some t → y ≠ x → ∀ k, (slV v').ownBlock = some k → (slV t).ownBlock ≠ some k := by
      intro y t hy hyx k hk1 hk3
      simp only [hyx, if_false] at hy
      rcases hl k hk1 with q | q
      · obtain ⟨u, hu, huk⟩ := hsb k q
        exact h4 x y u t hu hy (fun e => hyx e.symm) k huk hk3
      · have := (h2 y t hy).lt k hk3
        omega
    by_cases hyx : y = x
    · have hzx : z ≠ x := fun e => hyz (hyx.trans e.symm)
      simp only [hyx, if_true] at hy
      injection hy with hy
      subst hy
      exact key z u hz hzx k hk1 hk3
    · by_cases hzx : z = x
      · simp only [hzx, if_true] at hz
        injection hz with hz
        subst hz
        exact key y t hy hyx k hk3 hk1
      · simp only [hyx, if_false] at hy
        simp only [hzx, if_false] at hz
        exact h4 y z t u hy hz hyz k hk1 hk3
end
end Go.Proofs.Ytiedimmbcmpfbaa
