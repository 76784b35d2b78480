
-- A command's line.
import Derived.Test.YtdamhdceajmdfaaDoorTV
import Derived.Test.YtdamhdceajmdfaaDoorShelf
namespace Go.Proofs.YtdamhdceajmdfaaDoor
open Go.ChangeShapes Go.WideShapes Go.ChangeAt Go.RowKit
set_option linter.unusedVariables false
set_option maxRecDepth 100000
set_option linter.unusedSimpArgs false
theorem joinC (ns : List ByteArray) (u : Value) (w : World) (h : RowT w u ns) (hn : sumS ns ≤ 16777216) :
    Calls Tryd.prog 33 #[u, .string ⟨#[44, 32]⟩] w fun e w' => e = .returned (.string (joinS ns)) ∧ Below w.heap.size w w' := by
  have hl := sumS_len ns
  have hs := joinS_size ns
  obtain ⟨ao, cap, rfl, h1, h2, h3, h4⟩ := h
  cases ns with
  | nil =>
    refine (Tryd.strings_Join_none ao cap ⟨#[44, 32]⟩ w).mono ?_
    rintro e w' ⟨rfl, rfl⟩
    exact ⟨rfl, Below.refl _ _⟩
  | cons x r =>
    obtain ⟨b, off, rfl, hc⟩ := h4 (by simp)
    have hf : ∀ l : List ByteArray, l.flatMap txL = l.map Value.string := by intro l; induction l with | nil => rfl | cons y t ih => rw [List.flatMap_cons, ih]; rfl
    rw [hf] at hc
    refine (Tryd.strings_Join b off cap (x :: r) ⟨#[44, 32]⟩ w (fun j y hj => hc j _ (by rw [List.getElem?_map, hj]; rfl)) (World.block_lt_of_cell? w _ (hc 0 (.string x) rfl)) (by omega) h1 ?_).mono ?_
    · unfold joinS at hs; rw [byB_size] at hs
      refine Nat.le_trans hs ?_
      omega
    · rintro e w' ⟨rfl, hb⟩
      exact ⟨rfl, hb⟩
theorem keep2 {w w2 : World} {o o' : Obj} (hb : Below ((w.alloc o).alloc o').heap.size ((w.alloc o).alloc o') w2) : w2.heap[w.heap.size + 1]? = some o' ∧ w2.heap[w.heap.size]? = some o ∧ Below w.heap.size w w2 :=
  ⟨hkeepK hb (heap_new2K w o o'), hkeepK hb (hupK (heap_alloc_new w o) o'), bel3K (bupK (bupK (Below.refl _ _) _) _) hb⟩
set_option maxHeartbeats 4000000 in
theorem line_k (k : Nat) (hk0 : 0 < k) (hk : k < 14) (nb : Bool) (kd : Nat) (hkd : kd = 0 ∨ kd = 1 ∨ kd = 2) (W n : ByteArray) (ns : List ByteArray) (u : Value) (w : World) (hu : RowT w u ns) (hn : n.size ≤ 16777216) (hs : sumS ns ≤ 16777216) (hW : W.size ≤ 9) (h2 : 2 < w.heap.size)
    (c0 : w.cell? ⟨2, k * 3, none⟩ = some (.string W)) (c1 : w.cell? ⟨2, k * 3 + 1, none⟩ = some (.bool nb)) (c2 : w.cell? ⟨2, k * 3 + 2, none⟩ = some (.int .i64 (kd : Nat))) :
    Calls Tryd.prog 19 #[.agg #[.int .i64 (k : Nat), .string n, u]] w fun e w' => e = .returned (.string (lineK nb kd W n ns)) ∧ Below w.heap.size w w' := by
  obtain ⟨J, hJ⟩ : ∃ J, J = joinS ns := ⟨_, rfl⟩
  have hJs : J.size ≤ 33554432 := by rw [hJ]; have := joinS_size ns; omega
  have HV : Hid (∀ wx, Calls Tryd.prog 32 #[.int .i64 (k : Int)] wx fun e w' => e = .returned (.bool true) ∧ w' = wx) := fun wx => by
    have := isVerb_c (k : Int) wx
    rw [show decide ((0 : Int) < (k : Int) ∧ (k : Int) < 14) = true by simp; omega] at this
    exact this
  have HJ : Hid (∀ wx : World, Below w.heap.size w wx → Calls Tryd.prog 33 #[u, .string ⟨#[44, 32]⟩] wx fun e w' => e = .returned (.string J) ∧ Below wx.heap.size wx w') := fun wx hb => by rw [hJ]; exact joinC ns u wx (hu.on hb) (by omega)
  obtain ⟨P, hP⟩ : ∃ P, P = partN nb W n := ⟨_, rfl⟩
  have hPs : P.size ≤ 16777226 := by rw [hP]; have := partN_size nb W n; omega
  have HP : Hid (P = partN nb W n) := hP
  have HJJ : Hid (J = joinS ns) := hJ
  obtain ⟨ao, cap, hu'⟩ := hu.slice
  have hnl : ns.length ≤ 16777216 := Nat.le_trans (sumS_len ns) hs
  obtain ⟨m, hm⟩ : ∃ m, m = ns.length := ⟨_, rfl⟩
  have HM : Hid (m = ns.length) := hm
  rw [← hm] at hu' hnl
  subst hu'
  clear hJ hP hm hu
  have q1 : ¬ (9223372036854775807 < 1 + n.size) := by omega
  have q2 : ¬ (9223372036854775807 < W.size + (1 + n.size)) := by omega
  have q3 : ¬ (9223372036854775807 < 1 + J.size) := by omega
  have q4 : ¬ (9223372036854775807 < 2 + J.size) := by omega
  have q5 : ¬ (9223372036854775807 < 2 + J.size + 1) := by omega
  have kI0 : (0 : Int) ≤ (k : Int) := by omega
  have kI : (k : Int) < 14 := by omega
  have q6 : ¬ (9223372036854775807 < P.size + 1) := by omega
  have q7 : ¬ (9223372036854775807 < P.size + (1 + J.size)) := by omega
  have q8 : ¬ (9223372036854775807 < P.size + (1 + J.size) + 1) := by omega
  have q9 : ¬ (9223372036854775807 < P.size + (2 + J.size + 1)) := by omega
  have q10 : ¬ (9223372036854775807 < P.size + (2 + J.size + 1) + 1) := by omega
  cases nb
  · rcases hkd with rfl | rfl | rfl
    · have HF := hidK (show P ++ ⟨#[10]⟩ = lineK false 0 W n ns from by unfold lineK; rw [← HP.out]; unfold partK; rw [if_neg (by decide), if_neg (by simp)])
      obtain rfl : P = W := HP.out
      go_enter Tryd.func19, Tryd.ntmps19
      go_wp2_with (first
        | (go_at_call 32; refine (HV.out _).mono ?_; rintro e w1 ⟨rfl, hw1⟩; subst w1)
        | (go_at_call 33; refine (HJ.out _ (bupK (bupK (Below.refl _ _) _) _)).mono ?_; rintro e w2 ⟨rfl, hb2⟩; obtain ⟨g1, g2, hbb⟩ := keep2 hb2; have d2 := cell_rowK g1 2 _ rfl; have d3 := cell_rowK g2 2 _ rfl; clear hb2 g1 g2))
      go_ret
      exact ⟨by rw [← HF.out]; rfl, hbb⟩
    · have HF := hidK (show P ++ (⟨#[32]⟩ ++ J) ++ ⟨#[10]⟩ = lineK false 1 W n ns from by unfold lineK; rw [← HP.out]; unfold partK; rw [if_pos rfl, ← HJJ.out])
      obtain rfl : P = W := HP.out
      go_enter Tryd.func19, Tryd.ntmps19
      go_wp2_with (first
        | (go_at_call 32; refine (HV.out _).mono ?_; rintro e w1 ⟨rfl, hw1⟩; subst w1)
        | (go_at_call 33; refine (HJ.out _ (bupK (bupK (Below.refl _ _) _) _)).mono ?_; rintro e w2 ⟨rfl, hb2⟩; obtain ⟨g1, g2, hbb⟩ := keep2 hb2; have d2 := cell_rowK g1 2 _ rfl; have d3 := cell_rowK g2 2 _ rfl; clear hb2 g1 g2))
      go_ret
      exact ⟨by rw [← HF.out]; rfl, hbb⟩
    · by_cases hne : ns = []
      · have HNE := hidK hne
        have hm0 : m = 0 := by rw [HM.out, hne]; rfl
        subst hm0
        have HF := hidK (show P ++ ⟨#[10]⟩ = lineK false 2 W n ns from by unfold lineK; rw [← HP.out]; unfold partK; rw [if_neg (by decide), if_neg (by simp [HNE.out])])
        obtain rfl : P = W := HP.out
        go_enter Tryd.func19, Tryd.ntmps19
        go_wp2_with (first
          | (go_at_call 32; refine (HV.out _).mono ?_; rintro e w1 ⟨rfl, hw1⟩; subst w1)
          | (go_at_call 33; refine (HJ.out _ (bupK (bupK (Below.refl _ _) _) _)).mono ?_; rintro e w2 ⟨rfl, hb2⟩; obtain ⟨g1, g2, hbb⟩ := keep2 hb2; have d2 := cell_rowK g1 2 _ rfl; have d3 := cell_rowK g2 2 _ rfl; clear hb2 g1 g2))
        go_ret
        exact ⟨by rw [← HF.out]; rfl, hbb⟩
      · have HNE := hidK (show ns ≠ [] from hne)
        have hm0 : 0 < m := by rw [HM.out]; exact List.length_pos_iff.2 hne
        have mI : decide ((0 : Int) < (m : Int)) = true := by simp; omega
        have HF := hidK (show P ++ (⟨#[32, 40]⟩ ++ J ++ ⟨#[41]⟩) ++ ⟨#[10]⟩ = lineK false 2 W n ns from by unfold lineK; rw [← HP.out]; unfold partK; rw [if_neg (by decide), if_pos ⟨rfl, HNE.out⟩, ← HJJ.out])
        obtain rfl : P = W := HP.out
        go_enter Tryd.func19, Tryd.ntmps19
        go_wp2_with (first
          | (go_at_call 32; refine (HV.out _).mono ?_; rintro e w1 ⟨rfl, hw1⟩; subst w1)
          | (go_at_call 33; refine (HJ.out _ (bupK (bupK (Below.refl _ _) _) _)).mono ?_; rintro e w2 ⟨rfl, hb2⟩; obtain ⟨g1, g2, hbb⟩ := keep2 hb2; have d2 := cell_rowK g1 2 _ rfl; have d3 := cell_rowK g2 2 _ rfl; clear hb2 g1 g2))
        go_ret
        exact ⟨by rw [← HF.out]; rfl, hbb⟩
  · rcases hkd with rfl | rfl | rfl
    · have HF := hidK (show P ++ ⟨#[10]⟩ = lineK true 0 W n ns from by unfold lineK; rw [← HP.out]; unfold partK; rw [if_neg (by decide), if_neg (by simp)])
      have hP : W ++ (⟨#[32]⟩ ++ n) = P := by rw [HP.out]; rfl
      go_enter Tryd.func19, Tryd.ntmps19
      go_wp2_with (first
        | (go_at_call 32; refine (HV.out _).mono ?_; rintro e w1 ⟨rfl, hw1⟩; subst w1)
        | (go_at_call 33; refine (HJ.out _ (bupK (bupK (Below.refl _ _) _) _)).mono ?_; rintro e w2 ⟨rfl, hb2⟩; obtain ⟨g1, g2, hbb⟩ := keep2 hb2; have d2 := cell_rowK g1 2 _ rfl; have d3 := cell_rowK g2 2 _ rfl; clear hb2 g1 g2))
      go_ret
      exact ⟨by rw [← HF.out, ← hP]; rfl, hbb⟩
    · have HF := hidK (show P ++ (⟨#[32]⟩ ++ J) ++ ⟨#[10]⟩ = lineK true 1 W n ns from by unfold lineK; rw [← HP.out]; unfold partK; rw [if_pos rfl, ← HJJ.out])
      have hP : W ++ (⟨#[32]⟩ ++ n) = P := by rw [HP.out]; rfl
      go_enter Tryd.func19, Tryd.ntmps19
      go_wp2_with (first
        | (go_at_call 32; refine (HV.out _).mono ?_; rintro e w1 ⟨rfl, hw1⟩; subst w1)
        | (go_at_call 33; refine (HJ.out _ (bupK (bupK (Below.refl _ _) _) _)).mono ?_; rintro e w2 ⟨rfl, hb2⟩; obtain ⟨g1, g2, hbb⟩ := keep2 hb2; have d2 := cell_rowK g1 2 _ rfl; have d3 := cell_rowK g2 2 _ rfl; clear hb2 g1 g2))
      go_ret
      exact ⟨by rw [← HF.out, ← hP]; rfl, hbb⟩
    · by_cases hne : ns = []
      · have HNE := hidK hne
        have hm0 : m = 0 := by rw [HM.out, hne]; rfl
        subst hm0
        have HF := hidK (show P ++ ⟨#[10]⟩ = lineK true 2 W n ns from by unfold lineK; rw [← HP.out]; unfold partK; rw [if_neg (by decide), if_neg (by simp [HNE.out])])
        have hP : W ++ (⟨#[32]⟩ ++ n) = P := by rw [HP.out]; rfl
        go_enter Tryd.func19, Tryd.ntmps19
        go_wp2_with (first
          | (go_at_call 32; refine (HV.out _).mono ?_; rintro e w1 ⟨rfl, hw1⟩; subst w1)
          | (go_at_call 33; refine (HJ.out _ (bupK (bupK (Below.refl _ _) _) _)).mono ?_; rintro e w2 ⟨rfl, hb2⟩; obtain ⟨g1, g2, hbb⟩ := keep2 hb2; have d2 := cell_rowK g1 2 _ rfl; have d3 := cell_rowK g2 2 _ rfl; clear hb2 g1 g2))
        go_ret
        exact ⟨by rw [← HF.out, ← hP]; rfl, hbb⟩
      · have HNE := hidK (show ns ≠ [] from hne)
        have hm0 : 0 < m := by rw [HM.out]; exact List.length_pos_iff.2 hne
        have mI : decide ((0 : Int) < (m : Int)) = true := by simp; omega
        have HF := hidK (show P ++ (⟨#[32, 40]⟩ ++ J ++ ⟨#[41]⟩) ++ ⟨#[10]⟩ = lineK true 2 W n ns from by unfold lineK; rw [← HP.out]; unfold partK; rw [if_neg (by decide), if_pos ⟨rfl, HNE.out⟩, ← HJJ.out])
        have hP : W ++ (⟨#[32]⟩ ++ n) = P := by rw [HP.out]; rfl
        go_enter Tryd.func19, Tryd.ntmps19
        go_wp2_with (first
          | (go_at_call 32; refine (HV.out _).mono ?_; rintro e w1 ⟨rfl, hw1⟩; subst w1)
          | (go_at_call 33; refine (HJ.out _ (bupK (bupK (Below.refl _ _) _) _)).mono ?_; rintro e w2 ⟨rfl, hb2⟩; obtain ⟨g1, g2, hbb⟩ := keep2 hb2; have d2 := cell_rowK g1 2 _ rfl; have d3 := cell_rowK g2 2 _ rfl; clear hb2 g1 g2))
        go_ret
        exact ⟨by rw [← HF.out, ← hP]; rfl, hbb⟩
theorem lineOf_c (c : Mr) (u : Value) (w : World) (hT : VT w) (hu : RowT w u c.ns) (hn : c.n.size ≤ 16777216) (hs : sumS c.ns ≤ 16777216) :
    Calls Tryd.prog 19 #[.agg #[.int .i64 c.v, .string c.n, u]] w fun e w' => e = .returned (.string (byB (lineM c))) ∧ Below w.heap.size w w' := by
  obtain ⟨v, n, ns⟩ := c
  by_cases hv : 0 < v ∧ v < 14
  · obtain ⟨k, rfl⟩ : ∃ k : Nat, v = (k : Int) := ⟨v.toNat, by omega⟩
    have e : lineM ⟨(k : Int), n, ns⟩ = byL (lineV k n ns) := by unfold lineM; rw [if_pos hv]; rfl
    rw [e, byB_byL]
    obtain ⟨c0, c1, c2⟩ := hT.cells k (by omega)
    exact line_k k (by omega) (by omega) (namedV k) (kindV k) (kindV_cases k) (wordB k) n ns u w hu hn hs (wordB_size k) hT.lt c0 c1 c2
  · have e : lineM ⟨v, n, ns⟩ = [] := by unfold lineM; rw [if_neg hv]
    have HV : Hid (∀ wx, Calls Tryd.prog 32 #[.int .i64 v] wx fun e w' => e = .returned (.bool false) ∧ w' = wx) := fun wx => by
      have := isVerb_c v wx
      rw [show decide (0 < v ∧ v < 14) = false by simpa using hv] at this
      exact this
    rw [e]
    obtain ⟨ao, cap, rfl⟩ := hu.slice
    simp only at hu hn hs
    clear hT hu hv e
    go_enter Tryd.func19, Tryd.ntmps19
    go_wp2_with (go_at_call 32; refine (HV.out _).mono ?_; rintro e w1 ⟨rfl, hw1⟩; subst w1)
    go_ret
    exact ⟨rfl, bupK (Below.refl _ _) _⟩
end Go.Proofs.YtdamhdceajmdfaaDoor
