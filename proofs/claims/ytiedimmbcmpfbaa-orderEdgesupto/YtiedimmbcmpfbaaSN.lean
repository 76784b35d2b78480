
-- The same lists; texts' twins.
import Derived.Test.YtiedimmbcmpfbaaRE
namespace Go.Proofs.Ytiedimmbcmpfbaa
open Go.ChangeShapes Go.WideShapes Go.ChangeAt Go.RowKit Go.MapKept
set_option linter.unusedVariables false
set_option maxRecDepth 100000
set_option maxHeartbeats 4000000 in
theorem sameEdges_c (v u : Value) (L : List Ed) (w : World) (h : RowEd w v L) (h' : RowEd w u L) (hn : L.length < 4611686018427387904) :
    Calls Try.prog 8 #[v, u] w fun e w' => e = .returned (.bool true) ∧ Below w.heap.size w w' := by
  obtain ⟨a1, c1, q1, _, _⟩ := h.form
  obtain ⟨a2, c2, q2, _, _⟩ := h'.form
  obtain ⟨n, hnn⟩ : ∃ n, n = L.length := ⟨_, rfl⟩
  have HN := hidK hnn
  have HV := hidK h
  have HU := hidK h'
  subst q1 q2
  rw [← hnn] at hn ⊢ HV HU
  clear h h' hnn
  go_enter Try.func8, Try.ntmps8
  go_wp2
  go_loopw [5] (fun i wx => ∃ k : Nat, i = .int .i64 k ∧ k ≤ n ∧ Below w.heap.size w wx) (fun i _ => n - (intOf i).toNat)
  case atStart => exact ⟨0, rfl, Nat.zero_le _, Below.refl _ _⟩
  case round =>
    obtain ⟨k, rfl, hkn, hB⟩ := hrel
    by_cases hk : k < n
    · have kI : (k : Int) < (n : Int) := by omega
      have k0 : (0 : Int) ≤ (k : Int) := by omega
      have kw : IntKind.i64.wrap ((k : Int) + 1) = (k : Int) + 1 := by rw [IntKind.wrap_i64]; omega
      have hkl : k < L.length := by have := HN.out; omega
      obtain ⟨⟨p, q⟩, hy⟩ : ∃ x, L[k]? = some x := ⟨_, List.getElem?_eq_getElem hkl⟩
      obtain ⟨b1, o1, p1, e1, d0, d1⟩ := (HV.out.on hB).ed hy
      obtain ⟨b2, o2, p2, e2, f0, f1⟩ := (HU.out.on hB).ed hy
      injection e1 with e1 e1b e1c
      injection e2 with e2 e2b e2c
      subst e1 e2
      simp only at d0 d1 f0 f1
      have hE := fun W => run_equalIn_ed W p q p q
      simp only [and_self, decide_true] at hE
      clear hy hkl e1b e1c e2b e2c HV HU
      go_wp2_with fail
      go_quiet (fail)
      have hB3 := belDrewN hB nq
      go_wp2
      go_roundw
      case rel => exact ⟨k + 1, by go_num, by omega, hB3⟩
      case measure => simp [intOf]; omega
    · obtain rfl : k = n := by omega
      clear HV HU
      go_wp2
      go_ret
      exact ⟨rfl, hB⟩
set_option maxHeartbeats 4000000 in
theorem sameTexts_c (v u : Value) (L : List ByteArray) (w : World) (h : RowT w v L) (h' : RowT w u L) (hn : L.length < 4611686018427387904) :
    Calls Try.prog 16 #[v, u] w fun e w' => e = .returned (.bool true) ∧ Below w.heap.size w w' := by
  obtain ⟨a1, c1, q1, _, _⟩ := h.form
  obtain ⟨a2, c2, q2, _, _⟩ := h'.form
  obtain ⟨n, hnn⟩ : ∃ n, n = L.length := ⟨_, rfl⟩
  have HN := hidK hnn
  have HV := hidK h
  have HU := hidK h'
  subst q1 q2
  rw [← hnn] at hn ⊢ HV HU
  clear h h' hnn
  go_enter Try.func16, Try.ntmps16
  go_wp2
  go_loopw [5] (fun i wx => ∃ k : Nat, i = .int .i64 k ∧ k ≤ n ∧ Below w.heap.size w wx) (fun i _ => n - (intOf i).toNat)
  case atStart => exact ⟨0, rfl, Nat.zero_le _, Below.refl _ _⟩
  case round =>
    obtain ⟨k, rfl, hkn, hB⟩ := hrel
    by_cases hk : k < n
    · have kI : (k : Int) < (n : Int) := by omega
      have k0 : (0 : Int) ≤ (k : Int) := by omega
      have kw : IntKind.i64.wrap ((k : Int) + 1) = (k : Int) + 1 := by rw [IntKind.wrap_i64]; omega
      have hkl : k < L.length := by have := HN.out; omega
      obtain ⟨y, hy⟩ : ∃ x, L[k]? = some x := ⟨_, List.getElem?_eq_getElem hkl⟩
      obtain ⟨b1, o1, p1, e1, d0⟩ := (HV.out.on hB).tx hy
      obtain ⟨b2, o2, p2, e2, f0⟩ := (HU.out.on hB).tx hy
      injection e1 with e1 e1b e1c
      injection e2 with e2 e2b e2c
      subst e1 e2
      clear hy hkl e1b e1c e2b e2c HV HU
      go_wp2_with fail
      go_quiet (fail)
      have hB3 := belDrewN hB nq
      go_wp2
      go_roundw
      case rel => exact ⟨k + 1, by go_num, by omega, hB3⟩
      case measure => simp [intOf]; omega
    · obtain rfl : k = n := by omega
      clear HV HU
      go_wp2
      go_ret
      exact ⟨rfl, hB⟩
theorem rowG_front {α : Type} {c : α → List Value} {w : World} {ao : Option Addr} {n cap : Nat} {A Q : List α} (h : RowG c w (.slice ao n cap) (A ++ Q)) : RowG c w (.slice ao A.length cap) A := by
  obtain ⟨ao', cap', e, h1, h2, h3, h4⟩ := h
  injection e with e1 e2 e3
  subst e1 e3
  rw [List.length_append] at h1 h4
  refine ⟨_, _, rfl, by omega, h2, h3, fun hp => ?_⟩
  obtain ⟨b, off, e, hc⟩ := h4 (by omega)
  refine ⟨b, off, e, fun j u hu => hc j u ?_⟩
  rw [List.flatMap_append, List.getElem?_append_left (List.getElem?_eq_some_iff.1 hu).1]
  exact hu
/-- a list of one's own with a mark behind it -/
def Tw {α : Type} (c : α → List Value) (z e : Nat) (B : Nat) (w : World) (v : Value) (L : List α) (m : α) : Prop :=
  ∃ g cap, v = .slice (some ⟨g, 0, none⟩) L.length cap ∧ L.length + 1 ≤ cap ∧ cap ≤ maxLen ∧ OwnF (fun b => B ≤ b) c z e w (.slice (some ⟨g, 0, none⟩) (L.length + 1) cap) (L ++ [m])
section
variable {α : Type} {c : α → List Value} {z e sl bytes B : Nat} {w w' : World} {v : Value} {L : List α} {m : α}
theorem Tw.row (E : El c z e sl bytes) (h : Tw c z e B w v L m) : RowG c w v L := by
  obtain ⟨g, cap, rfl, _, _, h1⟩ := h
  exact rowG_front (h1.row E)
theorem Tw.on (h : Tw c z e B w v L m) (hb : Below w.heap.size w w') : Tw c z e B w' v L m := by
  obtain ⟨g, cap, h1, h2, h3, h4⟩ := h
  exact ⟨g, cap, h1, h2, h3, h4.on hb⟩
theorem Tw.le {B' : Nat} (h : Tw c z e B w v L m) (hb : B' ≤ B) : Tw c z e B' w v L m := by
  obtain ⟨g, cap, h1, h2, h3, h4⟩ := h
  exact ⟨g, cap, h1, h2, h3, h4.weak fun k hk => Nat.le_trans hb hk⟩
theorem Tw.full (E : El c z e sl bytes) (h : Tw c z e B w v L m) : ∃ g cap, v = .slice (some ⟨g, 0, none⟩) L.length cap ∧ L.length + 1 ≤ cap ∧ cap ≤ maxLen ∧ RowG c w (.slice (some ⟨g, 0, none⟩) (L.length + 1) cap) (L ++ [m]) := by
  obtain ⟨g, cap, h1, h2, h3, h4⟩ := h
  exact ⟨g, cap, h1, h2, h3, h4.row E⟩
/-- out of a row of one's own that has an element -/
theorem Tw.of {u : Value} (h : OwnF (fun b => B ≤ b) c z e w u (L ++ [m])) : ∃ g cap, u = .slice (some ⟨g, 0, none⟩) (L.length + 1) cap ∧ L.length + 1 ≤ cap ∧ cap ≤ maxLen ∧ Tw c z e B w (.slice (some ⟨g, 0, none⟩) L.length cap) L m := by
  have h0 := h
  rcases h.1.2 with ⟨q, q'⟩ | ⟨g, cap, cur, q1, q2, q3, q4, q5, _⟩
  · simp at q'
  · rw [List.length_append, List.length_singleton] at q1 q4
    subst q1
    exact ⟨g, cap, rfl, q4, q5, g, cap, rfl, q4, q5, h0⟩
theorem Tw.keep (h : Tw c z e B w v L m) (hk : ∀ k cs, w.heap[k]? = some (.cells cs e (0, 0)) → B ≤ k → w'.heap[k]? = w.heap[k]?) : Tw c z e B w' v L m := by
  obtain ⟨g, cap, h1, h2, h3, h4⟩ := h
  refine ⟨g, cap, h1, h2, h3, h4.keep fun k hh => ?_⟩
  obtain ⟨cs, hc⟩ := h4.typed hh
  exact hk k cs hc (h4.2 k hh)
end
def slT : ByteArray := ⟨#[47]⟩
set_option maxHeartbeats 4000000 in
theorem texts_c (v : Value) (L : List ByteArray) (w : World) (h : RowT w v L) (hn : L.length ≤ 4398046511104) :
    Calls Try.prog 9 #[v] w fun e w' => ∃ a l c, e = .returned (.slice a l c) ∧ Tw txL 1 9 w.heap.size w' (.slice a l c) L slT ∧ Below w.heap.size w w' := by
  obtain ⟨a1, c1, q1, _, _⟩ := h.form
  obtain ⟨n, hnn⟩ : ∃ n, n = L.length := ⟨_, rfl⟩
  have HN := hidK hnn
  have HV := hidK h
  subst q1
  rw [← hnn] at hn ⊢ HV
  clear h hnn
  go_enter Try.func9, Try.ntmps9
  go_upto_region 3 with (refine wpG_all (F := fun b => w.heap.size ≤ b) elT rfl (.tmp 4) (.tmp 5) rfl (.slice none 0 0) (.slice a1 n c1) [] L rfl rfl OwnF.nil HV.out (fun m _ => txL_one m) (by have := HN.out; simp; omega) (fun b hb => hb) ?_; intro v5 w5 o5 k5 l5; have HO5 := hidK o5; have HK5 := hidK k5; clear o5 k5 l5)
  have HB5 : Hid (Below w.heap.size w w5) := HK5.out.below (fun k hk => by simp [Value.ownBlock] at hk) (Nat.le_refl _)
  have HO5' : Hid (OwnF (fun b => w.heap.size ≤ b) txL 1 9 w5 v5 L) := by have := HO5.out; rw [List.nil_append] at this; exact this
  clear HO5 HK5
  go_upto_region 4 with (refine wpG_one elT rfl (.tmp 7) (.tmp 8) rfl _ L slT #[.string ⟨#[47]⟩] rfl rfl rfl HO5'.out (txL_one slT) (by have := HN.out; omega) (fun b hb => Nat.le_trans HB5.out.size hb) ?_; intro v6 w6 o6 k6 l6; have HO6 := hidK o6; have HK6 := hidK k6; clear o6 k6 l6)
  obtain ⟨g, cap, e6, hc1, hc2, htw⟩ := Tw.of HO6.out
  have HB6 : Hid (Below w.heap.size w w6) := HB5.out.trans (HK6.out.below (fun b hb => HO5'.out.2 b hb) HB5.out.size)
  rw [← HN.out] at e6 htw hc1
  subst e6
  have HT := hidK htw
  clear htw HO6 HK6 HO5' HB5
  have i1 : (n : Int) ≤ (cap : Int) := by omega
  have hc3 : cap ≤ 9223372036854775807 := by unfold maxLen at hc2; omega
  go_wp2
  go_ret
  exact ⟨_, _, _, rfl, HT.out, HB6.out⟩
end Go.Proofs.Ytiedimmbcmpfbaa
