
-- Twins of lists, with a mark in their spare room.
import Derived.Test.YtebgannhecmnmaaHC
namespace Go.Proofs.Ytebgannhecmnmaa
open Go.ChangeShapes Go.WideShapes Go.ChangeAt Go.RowKit Go.MapKept
set_option linter.unusedVariables false
set_option maxRecDepth 100000
/-- a list of one's own with a mark behind it -/
def Tw {α : Type} (c : α → List Value) (z e : Nat) (B : Nat) (w : World) (v : Value) (L : List α) (m : α) : Prop :=
  ∃ g cap, v = .slice (some ⟨g, 0, none⟩) L.length cap ∧ L.length + 1 ≤ cap ∧ cap ≤ maxLen ∧ OwnF (fun b => B ≤ b) c z e w (.slice (some ⟨g, 0, none⟩) (L.length + 1) cap) (L ++ [m])
section
variable {α : Type} {c : α → List Value} {z e sl bytes B : Nat} {w w' : World} {v : Value} {L : List α} {m : α}
theorem Tw.row (E : El c z e sl bytes) (h : Tw c z e B w v L m) : RowG c w v L := by
  obtain ⟨g, cap, rfl, _, _, h1⟩ := h
  exact rowG_front (h1.row E)
theorem Tw.on (h : Tw c z e B w v L m) (hb : Below w.heap.size w w') : Tw c z e B w' v L m := by
  obtain ⟨g, cap, h1, h2, h3, h4⟩ := h
  exact ⟨g, cap, h1, h2, h3, h4.on hb⟩
theorem Tw.le {B' : Nat} (h : Tw c z e B w v L m) (hb : B' ≤ B) : Tw c z e B' w v L m := by
  obtain ⟨g, cap, h1, h2, h3, h4⟩ := h
  exact ⟨g, cap, h1, h2, h3, h4.weak fun k hk => Nat.le_trans hb hk⟩
theorem Tw.full (E : El c z e sl bytes) (h : Tw c z e B w v L m) : ∃ g cap, v = .slice (some ⟨g, 0, none⟩) L.length cap ∧ L.length + 1 ≤ cap ∧ cap ≤ maxLen ∧ RowG c w (.slice (some ⟨g, 0, none⟩) (L.length + 1) cap) (L ++ [m]) := by
  obtain ⟨g, cap, h1, h2, h3, h4⟩ := h
  exact ⟨g, cap, h1, h2, h3, h4.row E⟩
/-- out of a row of one's own that has an element -/
theorem Tw.of {u : Value} (h : OwnF (fun b => B ≤ b) c z e w u (L ++ [m])) : ∃ g cap, u = .slice (some ⟨g, 0, none⟩) (L.length + 1) cap ∧ L.length + 1 ≤ cap ∧ cap ≤ maxLen ∧ Tw c z e B w (.slice (some ⟨g, 0, none⟩) L.length cap) L m := by
  have h0 := h
  rcases h.1.2 with ⟨q, q'⟩ | ⟨g, cap, cur, q1, q2, q3, q4, q5, _⟩
  · simp at q'
  · rw [List.length_append, List.length_singleton] at q1 q4
    subst q1
    exact ⟨g, cap, rfl, q4, q5, g, cap, rfl, q4, q5, h0⟩
theorem Tw.keep (h : Tw c z e B w v L m) (hk : ∀ k cs, w.heap[k]? = some (.cells cs e (0, 0)) → B ≤ k → w'.heap[k]? = w.heap[k]?) : Tw c z e B w' v L m := by
  obtain ⟨g, cap, h1, h2, h3, h4⟩ := h
  refine ⟨g, cap, h1, h2, h3, h4.keep fun k hh => ?_⟩
  obtain ⟨cs, hc⟩ := h4.typed hh
  exact hk k cs hc (h4.2 k hh)
end
def slT : ByteArray := ⟨#[47]⟩
set_option maxHeartbeats 4000000 in
theorem texts_c (v : Value) (L : List ByteArray) (w : World) (h : RowT w v L) (hn : L.length ≤ 4398046511104) :
    Calls Try.prog 40 #[v] w fun e w' => ∃ a l c, e = .returned (.slice a l c) ∧ Tw txL 1 9 w.heap.size w' (.slice a l c) L slT ∧ Below w.heap.size w w' := by
  obtain ⟨a1, c1, q1, _, _⟩ := h.form
  obtain ⟨n, hnn⟩ : ∃ n, n = L.length := ⟨_, rfl⟩
  have HN := hidK hnn
  have HV := hidK h
  subst q1
  rw [← hnn] at hn ⊢ HV
  clear h hnn
  go_enter Try.func40, Try.ntmps40
  go_upto_region 3 with (refine wpG_all (F := fun b => w.heap.size ≤ b) elT rfl (.tmp 4) (.tmp 5) rfl (.slice none 0 0) (.slice a1 n c1) [] L rfl rfl OwnF.nil HV.out (fun m _ => txL_one m) (by have := HN.out; simp; omega) (fun b hb => hb) ?_; intro v5 w5 o5 k5 l5; have HO5 := hidK o5; have HK5 := hidK k5; clear o5 k5 l5)
  have HB5 : Hid (Below w.heap.size w w5) := HK5.out.below (fun k hk => by simp [Value.ownBlock] at hk) (Nat.le_refl _)
  have HO5' : Hid (OwnF (fun b => w.heap.size ≤ b) txL 1 9 w5 v5 L) := by have := HO5.out; rw [List.nil_append] at this; exact this
  clear HO5 HK5
  go_upto_region 4 with (refine wpG_one elT rfl (.tmp 7) (.tmp 8) rfl _ L slT #[.string ⟨#[47]⟩] rfl rfl rfl HO5'.out (txL_one slT) (by have := HN.out; omega) (fun b hb => Nat.le_trans HB5.out.size hb) ?_; intro v6 w6 o6 k6 l6; have HO6 := hidK o6; have HK6 := hidK k6; clear o6 k6 l6)
  obtain ⟨g, cap, e6, hc1, hc2, htw⟩ := Tw.of HO6.out
  have HB6 : Hid (Below w.heap.size w w6) := HB5.out.trans (HK6.out.below (fun b hb => HO5'.out.2 b hb) HB5.out.size)
  rw [← HN.out] at e6 htw hc1
  subst e6
  have HT := hidK htw
  clear htw HO6 HK6 HO5' HB5
  have i1 : (n : Int) ≤ (cap : Int) := by omega
  have hc3 : cap ≤ 9223372036854775807 := by unfold maxLen at hc2; omega
  go_wp2
  go_ret
  exact ⟨_, _, _, rfl, HT.out, HB6.out⟩
set_option maxHeartbeats 4000000 in
theorem places_c (v : Value) (L : List Int) (w : World) (h : RowI w v L) (hn : L.length ≤ 4398046511104) :
    Calls Try.prog 39 #[v] w fun e w' => ∃ a l c, e = .returned (.slice a l c) ∧ Tw nmL 1 3 w.heap.size w' (.slice a l c) L (-7) ∧ Below w.heap.size w w' := by
  obtain ⟨a1, c1, q1, _, _⟩ := h.form
  obtain ⟨n, hnn⟩ : ∃ n, n = L.length := ⟨_, rfl⟩
  have HN := hidK hnn
  have HV := hidK h
  subst q1
  rw [← hnn] at hn ⊢ HV
  clear h hnn
  go_enter Try.func39, Try.ntmps39
  go_upto_region 3 with (refine wpG_all (F := fun b => w.heap.size ≤ b) elI rfl (.tmp 4) (.tmp 5) rfl (.slice none 0 0) (.slice a1 n c1) [] L rfl rfl OwnF.nil HV.out (fun m _ => nmL_one m) (by have := HN.out; simp; omega) (fun b hb => hb) ?_; intro v5 w5 o5 k5 l5; have HO5 := hidK o5; have HK5 := hidK k5; clear o5 k5 l5)
  have HB5 : Hid (Below w.heap.size w w5) := HK5.out.below (fun k hk => by simp [Value.ownBlock] at hk) (Nat.le_refl _)
  have HO5' : Hid (OwnF (fun b => w.heap.size ≤ b) nmL 1 3 w5 v5 L) := by have := HO5.out; rw [List.nil_append] at this; exact this
  clear HO5 HK5
  go_upto_region 4 with (refine wpG_one elI rfl (.tmp 7) (.tmp 8) rfl _ L (-7) #[.int .i64 (-7)] rfl rfl rfl HO5'.out (nmL_one (-7)) (by have := HN.out; omega) (fun b hb => Nat.le_trans HB5.out.size hb) ?_; intro v6 w6 o6 k6 l6; have HO6 := hidK o6; have HK6 := hidK k6; clear o6 k6 l6)
  obtain ⟨g, cap, e6, hc1, hc2, htw⟩ := Tw.of HO6.out
  have HB6 : Hid (Below w.heap.size w w6) := HB5.out.trans (HK6.out.below (fun b hb => HO5'.out.2 b hb) HB5.out.size)
  rw [← HN.out] at e6 htw hc1
  subst e6
  have HT := hidK htw
  clear htw HO6 HK6 HO5' HB5
  have i1 : (n : Int) ≤ (cap : Int) := by omega
  have hc3 : cap ≤ 9223372036854775807 := by unfold maxLen at hc2; omega
  go_wp2
  go_ret
  exact ⟨_, _, _, rfl, HT.out, HB6.out⟩
/-- a list of lists of one's own, each a twin -/
def TwLL (B : Nat) (w : World) (v : Value) (LL : List (List ByteArray)) : Prop :=
  ∃ vs : List Value, OwnF (fun b => B ≤ b) vaL 1 23 w v vs ∧ vs.length = LL.length ∧ ∀ (i : Nat) (u : Value) (l : List ByteArray), vs[i]? = some u → LL[i]? = some l → Tw txL 1 9 B w u l slT
theorem TwLL.on {B : Nat} {w w' : World} {v : Value} {LL : List (List ByteArray)} (h : TwLL B w v LL) (hb : Below w.heap.size w w') : TwLL B w' v LL := by
  obtain ⟨vs, h1, h2, h3⟩ := h
  exact ⟨vs, h1.on hb, h2, fun i u l hu hl => (h3 i u l hu hl).on hb⟩
theorem TwLL.le {B B' : Nat} {w : World} {v : Value} {LL : List (List ByteArray)} (h : TwLL B w v LL) (hb : B' ≤ B) : TwLL B' w v LL := by
  obtain ⟨vs, h1, h2, h3⟩ := h
  exact ⟨vs, h1.weak fun k hk => Nat.le_trans hb hk, h2, fun i u l hu hl => (h3 i u l hu hl).le hb⟩
theorem TwLL.row {B : Nat} {w : World} {v : Value} {LL : List (List ByteArray)} {F : Nat → Prop} (h : TwLL B w v LL) (hF : ∀ b, F b → w.heap.size ≤ b) : RowLL F w v LL := by
  obtain ⟨vs, h1, h2, h3⟩ := h
  exact ⟨vs, RowG.rowN (by decide) vaL_len (h1.row elL) hF, h2, fun i u l hu hl => RowG.rowN (by decide) txL_len ((h3 i u l hu hl).row elT) hF⟩
theorem TwLL.form {B : Nat} {w : World} {v : Value} {LL : List (List ByteArray)} (h : TwLL B w v LL) : ∃ a c, v = .slice a LL.length c := by
  obtain ⟨vs, h1, h2, h3⟩ := h
  obtain ⟨a, c, e, _⟩ := h1.form
  exact ⟨a, c, by rw [e, h2]⟩
set_option maxHeartbeats 4000000 in
theorem lists_c (v : Value) (LL : List (List ByteArray)) (w : World) (h : RowLL (fun b => w.heap.size ≤ b) w v LL) (hn : LL.length ≤ 4398046511104) (hi : ∀ l ∈ LL, l.length ≤ 4398046511104) :
    Calls Try.prog 41 #[v] w fun e w' => ∃ a l c, e = .returned (.slice a l c) ∧ TwLL w.heap.size w' (.slice a l c) LL ∧ Below w.heap.size w w' := by
  obtain ⟨us, h1, h2, h3⟩ := h
  obtain ⟨a1, c1, q1, _, _⟩ := h1.row.form
  obtain ⟨n, hnn⟩ : ∃ n, n = us.length := ⟨_, rfl⟩
  have HN := hidK hnn
  have HL2 := hidK h2
  rw [← hnn] at q1
  subst q1
  have HV : Hid (∀ W, Below w.heap.size w W → RowG vaL W (.slice a1 n c1) us ∧ ∀ (i : Nat) (u : Value) (l : List ByteArray), us[i]? = some u → LL[i]? = some l → RowT W u l) := fun W hb => ⟨h1.row.on hb, fun i u l hu hl => (h3 i u l hu hl).row.on hb⟩
  have hnm : n ≤ 4398046511104 := by omega
  have HI := hidK hi
  clear h1 h2 h3 hnn hi hn
  go_enter Try.func41, Try.ntmps41
  go_wp2
  go_loopw [3, 4] (fun o i wx => ∃ k : Nat, i = .int .i64 k ∧ k ≤ n ∧ TwLL w.heap.size wx o (LL.take k) ∧ Below w.heap.size w wx) (fun _ i _ => n - (intOf i).toNat)
  case atStart => exact ⟨0, rfl, Nat.zero_le _, ⟨[], OwnF.nil, rfl, fun i u l hu => by simp at hu⟩, Below.refl _ _⟩
  case round =>
    obtain ⟨k, rfl, hkn, ⟨vs, ho, hvl, hvs⟩, hB⟩ := hrel
    have HO := hidK ho
    have HB0 := hidK hB
    have HVL := hidK hvl
    have HVS := hidK hvs
    by_cases hk : k < n
    · have kI : (k : Int) < (n : Int) := by omega
      have k0 : (0 : Int) ≤ (k : Int) := by omega
      have kw : IntKind.i64.wrap ((k : Int) + 1) = (k : Int) + 1 := by rw [IntKind.wrap_i64]; omega
      obtain ⟨y, hy⟩ : ∃ x, us[k]? = some x := ⟨_, List.getElem?_eq_getElem (by have := HN.out; omega)⟩
      obtain ⟨l, hl⟩ : ∃ x, LL[k]? = some x := ⟨_, List.getElem?_eq_getElem (by have := HN.out; have := HL2.out; omega)⟩
      obtain ⟨b1, o1, p1, e1, d0⟩ := (HV.out _ hB).1.va hy
      have HY := hidK hl
      have HT := hidK (texts_c y l wr ((HV.out _ hB).2 k y l hy hl) (HI.out l (List.mem_of_getElem? hl)))
      have HVK : Hid (vs.length = k) := by
        have := hvl
        rw [List.length_take] at this
        have := HN.out; have := HL2.out
        show _ = _
        omega
      injection e1 with e1 e1b e1c
      subst e1
      clear hy hl e1b e1c HV hB ho hvl hvs
      go_wp2_with (first
        | (go_at_call 40; refine HT.out.mono ?_; rintro e w3 ⟨a3, l3, c3, rfl, q1, q2⟩; have HT3 := hidK q1; have HB3 := hidK q2; clear q1 q2)
        | (refine wpG_one elL rfl (.tmp 17) (.tmp 19) rfl _ vs (.slice a3 l3 c3) #[.slice a3 l3 c3] rfl rfl rfl (HO.out.on HB3.out) (by intro u hu; simp [vaL] at hu; subst hu; rfl) (by have := HVK.out; omega) (fun b hb => Nat.le_trans HB0.out.size (Nat.le_trans HB3.out.size hb)) ?_; intro v4 w4 o4 k4 l4; have HO4 := hidK o4; have HK4 := hidK k4; clear o4 k4 l4))
      go_roundw
      case rel =>
        have hb3 := HB0.out.trans (HB3.out.mono HB0.out.size)
        refine ⟨k + 1, by go_num, by omega, ⟨_, HO4.out, by rw [List.length_append, HVL.out, takeSucc HY.out, List.length_append]; rfl, fun i u l' hu hl' => ?_⟩, hb3.trans (HK4.out.below (fun b hb => HO.out.2 b hb) hb3.size)⟩
        have hkeep : ∀ (v : Value) (q : List ByteArray), Tw txL 1 9 w.heap.size w3 v q slT → Tw txL 1 9 w.heap.size w4 v q slT := fun v q ht => ht.keep (fun b cs hc _ => HK4.out.block b (Array.getElem?_eq_some_iff.1 hc).1 (fun e => by
          obtain ⟨cs', hc'⟩ := (HO.out.on HB3.out).typed e
          exact cells_typ hc hc' (by decide) rfl))
        by_cases hik : i < k
        · rw [List.getElem?_append_left (by have := HVK.out; omega)] at hu
          rw [List.getElem?_take_of_lt (by omega)] at hl'
          refine hkeep _ _ ((HVS.out i u l' hu ?_).on HB3.out)
          rw [List.getElem?_take_of_lt hik]
          exact hl'
        · have hie : i = k := by
            have h5 := (List.getElem?_eq_some_iff.1 hu).1
            have h6 := HVK.out
            rw [List.length_append, List.length_singleton] at h5
            omega
          subst hie
          rw [List.getElem?_append_right (by have := HVK.out; omega), HVK.out, Nat.sub_self] at hu
          simp at hu
          rw [List.getElem?_take_of_lt (by omega), HY.out] at hl'
          injection hl' with hl'
          subst hu hl'
          exact hkeep _ _ (HT3.out.le HB0.out.size)
      case measure => simp [intOf]; omega
    · obtain rfl : k = n := by omega
      have HE : Hid (TwLL w.heap.size wr u3 LL) := by
        have h0 : TwLL w.heap.size wr u3 (LL.take k) := ⟨vs, ho, hvl, hvs⟩
        rw [List.take_of_length_le (by have := HN.out; have := HL2.out; omega)] at h0
        exact h0
      clear HV ho hvl hvs HO HVL HVS
      go_wp2
      go_ret
      obtain ⟨a, c, e⟩ := HE.out.form
      exact ⟨a, _, c, by rw [← e]; rfl, by rw [← e]; exact HE.out, HB0.out⟩
end Go.Proofs.Ytebgannhecmnmaa
