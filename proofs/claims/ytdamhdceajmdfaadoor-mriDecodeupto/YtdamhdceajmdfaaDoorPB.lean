
-- Plain: what Text writes of clean commands is read back.
import Derived.Test.YtdamhdceajmdfaaDoorP1
namespace Go.Proofs.YtdamhdceajmdfaaDoor
open Go.ChangeShapes Go.WideShapes Go.ChangeAt Go.RowKit
set_option linter.unusedVariables false
set_option maxRecDepth 100000
set_option linter.unusedSimpArgs false
/-- a clean name -/
def okB (b : UInt8) : Bool := plainB b && b != 10
def cleanN (x : ByteArray) : Bool := (byL x).all okB && byL x != [] && byL x != [43]
def cleanM (c : Mr) : Bool :=
  if c.v = 1 ∨ c.v = 2 then cleanN c.n && c.ns.isEmpty
  else if c.v = 3 ∨ c.v = 5 ∨ c.v = 6 ∨ c.v = 7 then byL c.n == [] && c.ns.all cleanN && !c.ns.isEmpty
  else if c.v = 4 ∨ c.v = 9 then cleanN c.n && c.ns.all cleanN
  else if c.v = 8 ∨ c.v = 10 ∨ c.v = 11 ∨ c.v = 12 ∨ c.v = 13 then byL c.n == [] && c.ns.isEmpty
  else false
theorem cleanN_all {x : ByteArray} (h : cleanN x = true) : (∀ b ∈ byL x, plainB b = true ∧ b ≠ 10) ∧ byL x ≠ [] ∧ byL x ≠ [43] := by
  unfold cleanN okB at h
  simp only [Bool.and_eq_true, List.all_eq_true, bne_iff_ne] at h
  exact ⟨h.1.1, h.1.2, h.2⟩
theorem plain_par {b : UInt8} (h : plainB b = true) : parB b = false := by
  unfold plainB at h
  simp only [Bool.not_eq_true', Bool.or_eq_false_iff] at h
  exact h.1.2
theorem ba_eq {t : ByteArray} {l : List UInt8} (h : (t == byB l) = true) : byL t = l := by
  have e : (t == byB l) = (t.data == (byB l).data) := rfl
  rw [e] at h
  have := eq_of_beq h
  unfold byL byB at *
  rw [this]
theorem ba_ne {t : ByteArray} {l : List UInt8} (h : byL t ≠ l) : (t == byB l) = false := by
  cases q : (t == byB l) with
  | false => rfl
  | true => exact absurd (ba_eq q) h
theorem ba_rfl (l : List UInt8) : (byB l == byB l) = true := by
  have e : (byB l == byB l) = ((byB l).data == (byB l).data) := rfl
  rw [e]; exact beq_self_eq_true _
theorem cleanN_br {x : ByteArray} (h : cleanN x = true) : isBr x = false := by
  obtain ⟨h1, _, _⟩ := cleanN_all h
  unfold isBr
  rw [ba_ne (fun e => absurd (h1 40 (by rw [e]; simp)).1 (by decide)), ba_ne (fun e => absurd (h1 41 (by rw [e]; simp)).1 (by decide))]; rfl
theorem flush_clean {x : ByteArray} (h : byL x ≠ []) : flushW (byL x) = [x] := by
  unfold flushW; rw [if_neg h, byB_byL]
/-- a boundary: what stands behind parts words -/
def Bnd (z : List UInt8) : Prop := ∀ w, tokG w z = flushW w ++ tokG [] z
theorem bnd_nil : Bnd [] := by intro w; rw [tokG, tokG]; simp [flushW]
theorem bnd_sep {b : UInt8} (z : List UInt8) (h : remB b = false) (h2 : sepB b = true) : Bnd (b :: z) := by
  intro w; rw [tokG_sep w b z h h2, tokG_sep [] b z h h2]; simp [flushW]
theorem bnd_par {b : UInt8} (z : List UInt8) (h : remB b = false) (h2 : sepB b = false) (h3 : parB b = true) : Bnd (b :: z) := by
  intro w; rw [tokG_par w b z h h2 h3, tokG_par [] b z h h2 h3]; simp [flushW]
theorem tok_sp (z : List UInt8) : tokG [] (32 :: z) = tokG [] z := by rw [tokG_sep [] 32 z (by decide) (by decide)]; simp [flushW]
theorem tok_word {x : List UInt8} {z : List UInt8} (hx : ∀ b ∈ x, plainB b = true) (hne : x ≠ []) (hz : Bnd z) : tokG [] (x ++ z) = byB x :: tokG [] z := by
  rw [tokG_all x [] z hx, List.nil_append, hz x]
  unfold flushW; rw [if_neg hne]; rfl
theorem tok_name {x : ByteArray} {z : List UInt8} (hx : cleanN x = true) (hz : Bnd z) : tokG [] (byL x ++ z) = x :: tokG [] z := by
  obtain ⟨h1, h2, _⟩ := cleanN_all hx
  rw [tok_word (fun b hb => (h1 b hb).1) h2 hz, byB_byL]
theorem bnd_tail (r : List ByteArray) {z : List UInt8} (hz : Bnd z) : Bnd (r.flatMap (fun y => [44, 32] ++ byL y) ++ z) := by
  cases r with
  | nil => exact hz
  | cons y t => rw [List.flatMap_cons]; exact bnd_sep _ (by decide) (by decide)
theorem tok_tail : ∀ (r : List ByteArray) {z : List UInt8}, (∀ y ∈ r, cleanN y = true) → Bnd z → tokG [] (r.flatMap (fun y => [44, 32] ++ byL y) ++ z) = r ++ tokG [] z := by
  intro r
  induction r with
  | nil => intro z _ _; rfl
  | cons y t ih =>
    intro z h hz
    rw [List.flatMap_cons]
    have e : ([44, 32] ++ byL y ++ t.flatMap (fun y => [44, 32] ++ byL y)) ++ z = 44 :: 32 :: (byL y ++ (t.flatMap (fun y => [44, 32] ++ byL y) ++ z)) := by simp
    rw [e, tokG_sep [] 44 _ (by decide) (by decide), tok_sp, tok_name (h y (by simp)) (bnd_tail t hz), ih (fun q hq => h q (by simp [hq])) hz]
    simp [flushW]
theorem tok_join (ns : List ByteArray) {z : List UInt8} (hne : ns ≠ []) (h : ∀ y ∈ ns, cleanN y = true) (hz : Bnd z) : tokG [] (byL (joinS ns) ++ z) = ns ++ tokG [] z := by
  cases ns with
  | nil => exact absurd rfl hne
  | cons x r =>
    rw [joinS_cons, List.append_assoc, tok_name (h x (by simp)) (bnd_tail r hz), tok_tail r (fun q hq => h q (by simp [hq])) hz]; rfl
/-- a command's tokens -/
def toks (c : Mr) : List ByteArray := wordB c.v.toNat :: ((if namedV c.v.toNat then [c.n] else []) ++ (if kindV c.v.toNat = 1 then c.ns else if kindV c.v.toNat = 2 ∧ c.ns ≠ [] then byB [40] :: (c.ns ++ [byB [41]]) else []))
/-- what clean means, by the verb's kind -/
structure Cl0 (c : Mr) (k : Nat) : Prop where
  v : c.v = (k : Int)
  pos : 0 < k
  lt : k < 14
  nm : namedV k = true → cleanN c.n = true
  no : namedV k = false → byL c.n = []
  ns : ∀ y ∈ c.ns, cleanN y = true
  k0 : kindV k = 0 → c.ns = []
  k1 : kindV k = 1 → c.ns ≠ []
theorem clean_parts {c : Mr} (h : cleanM c = true) : ∃ k, Cl0 c k := by
  have hk : ∃ k : Nat, c.v = (k : Int) ∧ 0 < k ∧ k < 14 := by
    unfold cleanM at h
    refine ⟨c.v.toNat, ?_⟩
    split at h
    · omega
    · split at h
      · omega
      · split at h
        · omega
        · split at h
          · omega
          · cases h
  obtain ⟨k, hv, h0, h1⟩ := hk
  refine ⟨k, ?_⟩
  unfold cleanM at h
  rw [hv] at h
  have all : k = 1 ∨ k = 2 ∨ k = 3 ∨ k = 4 ∨ k = 5 ∨ k = 6 ∨ k = 7 ∨ k = 8 ∨ k = 9 ∨ k = 10 ∨ k = 11 ∨ k = 12 ∨ k = 13 := by omega
  have hall : ∀ {l : List ByteArray}, l.all cleanN = true → ∀ y ∈ l, cleanN y = true := fun h => by simpa using h
  have hnil : ∀ {l : List ByteArray}, l.isEmpty = true → l = [] := fun h => by simpa using h
  have hbl : ∀ {x : ByteArray}, (byL x == []) = true → byL x = [] := fun h => by simpa using h
  rcases all with rfl | rfl | rfl | rfl | rfl | rfl | rfl | rfl | rfl | rfl | rfl | rfl | rfl
  iterate 2
    (rw [if_pos (by omega), Bool.and_eq_true] at h
     have e := hnil h.2
     exact ⟨hv, by decide, by decide, fun _ => h.1, fun q => by simp [namedV] at q, by rw [e]; simp, fun _ => e, fun q => by simp [kindV] at q⟩)
  iterate 1
    (rw [if_neg (by omega), if_pos (by omega), Bool.and_eq_true, Bool.and_eq_true] at h
     exact ⟨hv, by decide, by decide, fun q => by simp [namedV] at q, fun _ => hbl h.1.1, hall h.1.2, fun q => by simp [kindV] at q, fun _ e => by rw [e] at h; simp at h⟩)
  iterate 1
    (rw [if_neg (by omega), if_neg (by omega), if_pos (by omega), Bool.and_eq_true] at h
     exact ⟨hv, by decide, by decide, fun _ => h.1, fun q => by simp [namedV] at q, hall h.2, fun q => by simp [kindV] at q, fun q => by simp [kindV] at q⟩)
  iterate 3
    (rw [if_neg (by omega), if_pos (by omega), Bool.and_eq_true, Bool.and_eq_true] at h
     exact ⟨hv, by decide, by decide, fun q => by simp [namedV] at q, fun _ => hbl h.1.1, hall h.1.2, fun q => by simp [kindV] at q, fun _ e => by rw [e] at h; simp at h⟩)
  iterate 1
    (rw [if_neg (by omega), if_neg (by omega), if_neg (by omega), if_pos (by omega), Bool.and_eq_true] at h
     have e := hnil h.2
     exact ⟨hv, by decide, by decide, fun q => by simp [namedV] at q, fun _ => hbl h.1, by rw [e]; simp, fun _ => e, fun q => by simp [kindV] at q⟩)
  iterate 1
    (rw [if_neg (by omega), if_neg (by omega), if_pos (by omega), Bool.and_eq_true] at h
     exact ⟨hv, by decide, by decide, fun _ => h.1, fun q => by simp [namedV] at q, hall h.2, fun q => by simp [kindV] at q, fun q => by simp [kindV] at q⟩)
  iterate 4
    (rw [if_neg (by omega), if_neg (by omega), if_neg (by omega), if_pos (by omega), Bool.and_eq_true] at h
     have e := hnil h.2
     exact ⟨hv, by decide, by decide, fun q => by simp [namedV] at q, fun _ => hbl h.1, by rw [e]; simp, fun _ => e, fun q => by simp [kindV] at q⟩)
end Go.Proofs.YtdamhdceajmdfaaDoor
