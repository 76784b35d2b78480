
-- Letter: the document's.
import Derived.Test.YtnajnfnkpcpacaaLB
namespace Go.Proofs.Ytnajnfnkpcpacaa
open Go.ChangeShapes Go.WideShapes Go.ChangeAt Go.RowKit
set_option linter.unusedVariables false
set_option maxRecDepth 100000
set_option linter.unusedSimpArgs false
set_option maxHeartbeats 2000000 in
theorem rletter20_c (nm : ByteArray) (bd ty ot sc va sz : Int) (v : Value) (S : List Se) (w : World) (hS : RowG seL w v S) :
    Calls Try.prog 10 #[.agg #[.string nm, .int .i64 bd, .int .i64 ty, .int .i64 ot, .int .i64 sc, .int .u64 va, .int .u64 sz], v] w
      fun e w' => e = .returned (.int .u8 (letS ⟨nm, bd, ty, ot, sc, va, sz⟩ S)) ∧ Below w.heap.size w w' := by
  have hB := bupK (Below.refl w.heap.size w) (.cells #[.string nm, .int .i64 bd, .int .i64 ty, .int .i64 ot, .int .i64 sc, .int .u64 va, .int .u64 sz] 28)
  obtain ⟨ao, cap, rfl, hn1, hn2⟩ := hS.form
  obtain ⟨r, hr⟩ : ∃ r, r = letS ⟨nm, bd, ty, ot, sc, va, sz⟩ S := ⟨_, rfl⟩
  rw [← hr]
  simp only [letS, letP] at hr
  have HR := hidK hr
  have HS := hidK hS
  obtain ⟨n, hn⟩ : ∃ n, n = S.length := ⟨_, rfl⟩
  rw [← hn] at HR ⊢
  have HN := hidK hn
  clear hr hS hn1 hn hn2
  have HC : Hid (∀ c w, 65 ≤ c → c ≤ 90 → Calls Try.prog 20 #[.int .u8 c, .int .i64 bd] w fun e w' => e = .returned (.int .u8 (byB bd c)) ∧ Below w.heap.size w w') := fun c w h1 h2 => small_c bd c h1 h2 w
  by_cases h0 : sc = 0
  · subst h0
    by_cases h2 : bd = 2
    · subst h2
      have e1 := HR.out
      simp only [if_true] at e1
      subst e1
      clear HR HC HS HN
      go_enter Try.func10, Try.ntmps10
      go_wp2
      go_ret
      exact ⟨rfl, hB⟩
    · have e1 := HR.out
      simp only [if_true, h2, if_false] at e1
      subst e1
      clear HR HC HS HN
      go_enter Try.func10, Try.ntmps10
      go_wp2
      go_ret
      exact ⟨rfl, hB⟩
  by_cases h1 : sc = 65522
  · subst h1
    have e1 := HR.out
    simp only [if_true, h0, if_false] at e1
    subst e1
    clear HR HC HS HN
    go_enter Try.func10, Try.ntmps10
    go_wp2
    go_ret
    exact ⟨rfl, hB⟩
  by_cases h2 : bd = 2
  · subst h2
    by_cases h3 : ty = 1
    · subst h3
      have e1 := HR.out
      simp only [if_true, h0, h1, if_false] at e1
      subst e1
      clear HR HC HS HN
      go_enter Try.func10, Try.ntmps10
      go_wp2
      go_ret
      exact ⟨rfl, hB⟩
    · have e1 := HR.out
      simp only [if_true, h0, h1, h3, if_false] at e1
      subst e1
      clear HR HC HS HN
      go_enter Try.func10, Try.ntmps10
      go_wp2
      go_ret
      exact ⟨rfl, hB⟩
  by_cases h4 : sc = 65521
  · subst h4
    have e1 := HR.out
    simp only [if_true, h0, h1, h2, if_false] at e1
    subst e1
    clear HR HS HN
    go_enter Try.func10, Try.ntmps10
    go_wp2_with (go_at_call 20; refine (HC.out _ _ (by decide) (by decide)).mono ?_; rintro e w1 ⟨rfl, hb1⟩)
    go_ret
    exact ⟨rfl, bel3K hB hb1⟩
  by_cases h5 : sc < 0
  · have e1 := HR.out
    simp only [if_true, h0, h1, h2, h4, h5, true_or, if_false] at e1
    subst e1
    clear HR HC HS HN
    go_enter Try.func10, Try.ntmps10
    go_wp2
    go_ret
    exact ⟨rfl, hB⟩
  by_cases h6 : (n : Int) ≤ sc
  · have e1 := HR.out
    simp only [if_true, h0, h1, h2, h4, h5, h6, or_true, if_false] at e1
    subst e1
    clear HR HC HS HN
    go_enter Try.func10, Try.ntmps10
    go_wp2
    go_ret
    exact ⟨rfl, hB⟩
  obtain ⟨k, rfl⟩ : ∃ k : Nat, sc = k := ⟨sc.toNat, by omega⟩
  have hkn : k < n := by omega
  have hkl : k < S.length := by have := HN.out; omega
  obtain ⟨x, hx⟩ : ∃ x, S[k]? = some x := ⟨_, List.getElem?_eq_getElem hkl⟩
  have e1 := HR.out
  have ex : S.getD k se0 = x := by rw [List.getD_eq_getElem?_getD, hx]; rfl
  simp only [h0, h1, h2, h4, h5, h6, or_false, if_false, Int.toNat_natCast, ex] at e1
  clear HR
  obtain ⟨b1, o1, p1, q1, d0, d1, d2, d3, d4, d5, d6, d7⟩ := (HS.out.on hB).se hx
  injection q1 with q1 q1b q1c
  subst q1
  obtain ⟨m0, m1, m2, m3, m4, m5, m6, m7⟩ := x
  have HE := hidK e1
  have k0 : (0 : Int) ≤ (k : Int) := by omega
  have kI : (k : Int) < (n : Int) := by omega
  clear e1 ex q1b q1c HS HN hkl hx
  obtain ⟨W, hW⟩ : ∃ W, W = w.alloc (.cells #[.string nm, .int .i64 bd, .int .i64 ty, .int .i64 ot, .int .i64 (k : Int), .int .u64 va, .int .u64 sz] 28) := ⟨_, rfl⟩
  have c1 : W.cell? ⟨w.heap.size, 1, none⟩ = some (.int .i64 bd) := by rw [hW]; exact cell_rowK (heap_alloc_new _ _) 1 _ rfl
  have c4 : W.cell? ⟨w.heap.size, 4, none⟩ = some (.int .i64 (k : Int)) := by rw [hW]; exact cell_rowK (heap_alloc_new _ _) 4 _ rfl
  rw [← hW] at hB d0 d1 d2 d3 d4 d5 d6 d7
  go_enter Try.func10, Try.ntmps10
  go_upto_region 15 with fail
  rw [← hW]
  have HY := hidK hW
  clear hW
  go_upto_region 16 with fail
  have hB2 := bupK hB (.cells #[.int .i64 m0, .int .i64 m1, .int .u64 m2, .int .i64 m3, .int .i64 m4, .int .u64 m5, .int .u64 m6, .int .u64 m7] 50)
  have c1' := cell_onG c1 (bup0 W (.cells #[.int .i64 m0, .int .i64 m1, .int .u64 m2, .int .i64 m3, .int .i64 m4, .int .u64 m5, .int .u64 m6, .int .u64 m7] 50))
  obtain ⟨V, hV⟩ : ∃ V, V = W.alloc (.cells #[.int .i64 m0, .int .i64 m1, .int .u64 m2, .int .i64 m3, .int .i64 m4, .int .u64 m5, .int .u64 m6, .int .u64 m7] 50) := ⟨_, rfl⟩
  have x1 : V.cell? ⟨W.heap.size, 1, none⟩ = some (.int .i64 m1) := by rw [hV]; exact cell_rowK (heap_alloc_new _ _) 1 _ rfl
  have x2 : V.cell? ⟨W.heap.size, 2, none⟩ = some (.int .u64 m2) := by rw [hV]; exact cell_rowK (heap_alloc_new _ _) 2 _ rfl
  rw [← hV] at hB2 c1' ⊢
  have HB2 := hidK hB2
  clear hV hB2 hB c1 c4 d0 d1 d2 d3 d4 d5 d6 d7
  by_cases t8 : m1 = 8
  · subst t8
    have eS : secLt 8 m2 = 66 := by simp [secLt]
    rw [eS] at HE
    go_wp2_with (go_at_call 20; refine (HC.out _ _ (by decide) (by decide)).mono ?_; rintro e w1 ⟨rfl, hb1⟩)
    go_ret
    exact ⟨by rw [HE.out]; rfl, bel3K HB2.out hb1⟩
  · go_wp2_with (go_at_call 20; refine (HC.out _ _ (by decide) (by decide)).mono ?_; rintro e w1 ⟨rfl, hb1⟩)
    all_goals go_ret
    all_goals refine ⟨?_, bel3K HB2.out hb1⟩
    all_goals rw [HE.out]
    all_goals simp only [secLt, fb, t8, if_false, if_true, Bool.false_eq_true, *]
    all_goals rfl
end Go.Proofs.Ytnajnfnkpcpacaa
