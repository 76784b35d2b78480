
-- Letter of a symbol: the program's and the document's.
import Derived.Test.YtnajnfnkpcpacaaLA
import Derived.Deep.RegionHeld3
import Derived.Deep.CutRange
namespace Go.Proofs.Ytnajnfnkpcpacaa
open Go.ChangeShapes Go.WideShapes Go.ChangeAt Go.RowKit
set_option linter.unusedVariables false
set_option maxRecDepth 100000
set_option linter.unusedSimpArgs false
theorem seL_one : ∀ x, ∀ u ∈ seL x, u.oneCell' = true := by
  intro x u hu
  simp only [seL, List.mem_cons, List.not_mem_nil, or_false] at hu
  rcases hu with rfl | rfl | rfl | rfl | rfl | rfl | rfl | rfl <;> rfl
theorem RowG.se {w : World} {v : Value} {L : List Se} {k : Nat} {x : Se} (h : RowG seL w v L) (hx : L[k]? = some x) : ∃ b off cap, v = .slice (some ⟨b, off, none⟩) L.length cap ∧ w.cell? ⟨b, off + k * 8, none⟩ = some (.int .i64 x.nm) ∧ w.cell? ⟨b, off + k * 8 + 1, none⟩ = some (.int .i64 x.ty) ∧ w.cell? ⟨b, off + k * 8 + 2, none⟩ = some (.int .u64 x.fl) ∧ w.cell? ⟨b, off + k * 8 + 3, none⟩ = some (.int .i64 x.lk) ∧ w.cell? ⟨b, off + k * 8 + 4, none⟩ = some (.int .i64 x.inf) ∧ w.cell? ⟨b, off + k * 8 + 5, none⟩ = some (.int .u64 x.ofs) ∧ w.cell? ⟨b, off + k * 8 + 6, none⟩ = some (.int .u64 x.sz) ∧ w.cell? ⟨b, off + k * 8 + 7, none⟩ = some (.int .u64 x.es) := by
  obtain ⟨b, off, cap, e, _, _, hc⟩ := RowG.at seL_len h hx
  exact ⟨b, off, cap, e, hc 0 _ rfl, hc 1 _ rfl, hc 2 _ rfl, hc 3 _ rfl, hc 4 _ rfl, hc 5 _ rfl, hc 6 _ rfl, hc 7 _ rfl⟩
theorem bup0 (w : World) (o : Obj) : Below w.heap.size w (w.alloc o) := bupK (Below.refl _ _) o
/-- the letter by the list of sections -/
def letS (x : Sy) (S : List Se) : Int := letP x S.length (S.getD x.sc.toNat se0).ty (S.getD x.sc.toNat se0).fl
set_option maxHeartbeats 2000000 in
theorem letter_c (nm : ByteArray) (bd ty ot sc va sz : Int) (v : Value) (S : List Se) (w : World) (hS : RowG seL w v S) :
    Calls Try.prog 9 #[.agg #[.string nm, .int .i64 bd, .int .i64 ty, .int .i64 ot, .int .i64 sc, .int .u64 va, .int .u64 sz], v] w
      fun e w' => e = .returned (.int .u8 (letS ⟨nm, bd, ty, ot, sc, va, sz⟩ S)) ∧ Below w.heap.size w w' := by
  have hB := bupK (Below.refl w.heap.size w) (.cells #[.string nm, .int .i64 bd, .int .i64 ty, .int .i64 ot, .int .i64 sc, .int .u64 va, .int .u64 sz] 28)
  obtain ⟨ao, cap, rfl, hn1, hn2⟩ := hS.form
  obtain ⟨r, hr⟩ : ∃ r, r = letS ⟨nm, bd, ty, ot, sc, va, sz⟩ S := ⟨_, rfl⟩
  rw [← hr]
  simp only [letS, letP] at hr
  have HR := hidK hr
  have HS := hidK hS
  obtain ⟨n, hn⟩ : ∃ n, n = S.length := ⟨_, rfl⟩
  rw [← hn] at HR ⊢
  have HN := hidK hn
  clear hr hS hn1 hn hn2
  have HC : Hid (∀ c w, 65 ≤ c → c ≤ 90 → Calls Try.prog 18 #[.int .i64 bd, .int .u8 c] w fun e w' => e = .returned (.int .u8 (byB bd c)) ∧ Below w.heap.size w w') := fun c w h1 h2 => byBind_c bd c h1 h2 w
  by_cases h0 : sc = 0
  · subst h0
    by_cases h2 : bd = 2
    · subst h2
      have e1 := HR.out
      simp only [if_true] at e1
      subst e1
      clear HR HC HS HN
      go_enter Try.func9, Try.ntmps9
      go_wp2
      go_ret
      exact ⟨rfl, hB⟩
    · have e1 := HR.out
      simp only [if_true, h2, if_false] at e1
      subst e1
      clear HR HC HS HN
      go_enter Try.func9, Try.ntmps9
      go_wp2
      go_ret
      exact ⟨rfl, hB⟩
  by_cases h1 : sc = 65522
  · subst h1
    have e1 := HR.out
    simp only [if_true, h0, if_false] at e1
    subst e1
    clear HR HC HS HN
    go_enter Try.func9, Try.ntmps9
    go_wp2
    go_ret
    exact ⟨rfl, hB⟩
  by_cases h2 : bd = 2
  · subst h2
    by_cases h3 : ty = 1
    · subst h3
      have e1 := HR.out
      simp only [if_true, h0, h1, if_false] at e1
      subst e1
      clear HR HC HS HN
      go_enter Try.func9, Try.ntmps9
      go_wp2
      go_ret
      exact ⟨rfl, hB⟩
    · have e1 := HR.out
      simp only [if_true, h0, h1, h3, if_false] at e1
      subst e1
      clear HR HC HS HN
      go_enter Try.func9, Try.ntmps9
      go_wp2
      go_ret
      exact ⟨rfl, hB⟩
  by_cases h4 : sc = 65521
  · subst h4
    have e1 := HR.out
    simp only [if_true, h0, h1, h2, if_false] at e1
    subst e1
    clear HR HS HN
    go_enter Try.func9, Try.ntmps9
    go_wp2_with (go_at_call 18; refine (HC.out _ _ (by decide) (by decide)).mono ?_; rintro e w1 ⟨rfl, hb1⟩)
    go_ret
    exact ⟨rfl, bel3K hB hb1⟩
  by_cases h5 : sc < 0
  · have e1 := HR.out
    simp only [if_true, h0, h1, h2, h4, h5, true_or, if_false] at e1
    subst e1
    clear HR HC HS HN
    go_enter Try.func9, Try.ntmps9
    go_wp2
    go_ret
    exact ⟨rfl, hB⟩
  by_cases h6 : (n : Int) ≤ sc
  · have e1 := HR.out
    simp only [if_true, h0, h1, h2, h4, h5, h6, or_true, if_false] at e1
    subst e1
    clear HR HC HS HN
    go_enter Try.func9, Try.ntmps9
    go_wp2
    go_ret
    exact ⟨rfl, hB⟩
  obtain ⟨k, rfl⟩ : ∃ k : Nat, sc = k := ⟨sc.toNat, by omega⟩
  have hkn : k < n := by omega
  have hkl : k < S.length := by have := HN.out; omega
  obtain ⟨x, hx⟩ : ∃ x, S[k]? = some x := ⟨_, List.getElem?_eq_getElem hkl⟩
  have e1 := HR.out
  have ex : S.getD k se0 = x := by rw [List.getD_eq_getElem?_getD, hx]; rfl
  simp only [h0, h1, h2, h4, h5, h6, or_false, if_false, Int.toNat_natCast, ex] at e1
  clear HR
  obtain ⟨b1, o1, p1, q1, d0, d1, d2, d3, d4, d5, d6, d7⟩ := (HS.out.on hB).se hx
  injection q1 with q1 q1b q1c
  subst q1
  obtain ⟨m0, m1, m2, m3, m4, m5, m6, m7⟩ := x
  have HE := hidK e1
  have k0 : (0 : Int) ≤ (k : Int) := by omega
  have kI : (k : Int) < (n : Int) := by omega
  clear e1 ex q1b q1c HS HN hkl hx
  have HD : Hid (∀ w, Calls Try.prog 19 #[.agg #[.int .i64 m0, .int .i64 m1, .int .u64 m2, .int .i64 m3, .int .i64 m4, .int .u64 m5, .int .u64 m6, .int .u64 m7]] w fun e w' => e = .returned (.int .u8 (secLt m1 m2)) ∧ Below w.heap.size w w') := fun w => sec_c m0 m1 m2 m3 m4 m5 m6 m7 w
  have hb0 := bup0 w (.cells #[.string nm, .int .i64 bd, .int .i64 ty, .int .i64 ot, .int .i64 (k : Int), .int .u64 va, .int .u64 sz] 28)
  obtain ⟨W, hW⟩ : ∃ W, W = w.alloc (.cells #[.string nm, .int .i64 bd, .int .i64 ty, .int .i64 ot, .int .i64 (k : Int), .int .u64 va, .int .u64 sz] 28) := ⟨_, rfl⟩
  have c1 : W.cell? ⟨w.heap.size, 1, none⟩ = some (.int .i64 bd) := by rw [hW]; exact cell_rowK (heap_alloc_new _ _) 1 _ rfl
  have c4 : W.cell? ⟨w.heap.size, 4, none⟩ = some (.int .i64 (k : Int)) := by rw [hW]; exact cell_rowK (heap_alloc_new _ _) 4 _ rfl
  rw [← hW] at hB d0 d1 d2 d3 d4 d5 d6 d7
  go_enter Try.func9, Try.ntmps9
  go_upto_region 15 with fail
  rw [← hW]
  have HX := hidK hB
  have HY := hidK hW
  have v1 : ∀ V, Below W.heap.size W V → V.cell? ⟨w.heap.size, 1, none⟩ = some (.int .i64 bd) := fun V hb => cell_onG c1 hb
  have v4 : ∀ V, Below W.heap.size W V → V.cell? ⟨w.heap.size, 4, none⟩ = some (.int .i64 (k : Int)) := fun V hb => cell_onG c4 hb
  have u0 : ∀ V, Below W.heap.size W V → V.cell? ⟨b1, o1 + k * 8, none⟩ = some (.int .i64 m0) := fun V hb => cell_onG d0 hb
  have u1 : ∀ V, Below W.heap.size W V → V.cell? ⟨b1, o1 + k * 8 + 1, none⟩ = some (.int .i64 m1) := fun V hb => cell_onG d1 hb
  have u2 : ∀ V, Below W.heap.size W V → V.cell? ⟨b1, o1 + k * 8 + 2, none⟩ = some (.int .u64 m2) := fun V hb => cell_onG d2 hb
  have u3 : ∀ V, Below W.heap.size W V → V.cell? ⟨b1, o1 + k * 8 + 3, none⟩ = some (.int .i64 m3) := fun V hb => cell_onG d3 hb
  have u4 : ∀ V, Below W.heap.size W V → V.cell? ⟨b1, o1 + k * 8 + 4, none⟩ = some (.int .i64 m4) := fun V hb => cell_onG d4 hb
  have u5 : ∀ V, Below W.heap.size W V → V.cell? ⟨b1, o1 + k * 8 + 5, none⟩ = some (.int .u64 m5) := fun V hb => cell_onG d5 hb
  have u6 : ∀ V, Below W.heap.size W V → V.cell? ⟨b1, o1 + k * 8 + 6, none⟩ = some (.int .u64 m6) := fun V hb => cell_onG d6 hb
  have u7 : ∀ V, Below W.heap.size W V → V.cell? ⟨b1, o1 + k * 8 + 7, none⟩ = some (.int .u64 m7) := fun V hb => cell_onG d7 hb
  have hW0 : Below W.heap.size W W := Below.refl _ _
  have HD2 : Hid (∀ V, Below W.heap.size W V → Calls Try.prog 19 #[.agg #[.int .i64 m0, .int .i64 m1, .int .u64 m2, .int .i64 m3, .int .i64 m4, .int .u64 m5, .int .u64 m6, .int .u64 m7]] V fun e w' => e = .returned (.int .u8 (secLt m1 m2)) ∧ Below W.heap.size W w') := fun V hb => (HD.out V).mono (by
    rintro e w' ⟨q1, q2⟩
    exact ⟨q1, bel3K hb q2⟩)
  have HC2 : Hid (∀ V, Below W.heap.size W V → Calls Try.prog 18 #[.int .i64 bd, .int .u8 (secLt m1 m2)] V fun e w' => e = .returned (.int .u8 (byB bd (secLt m1 m2))) ∧ Below W.heap.size W w') := fun V hb => (HC.out _ V (secLt_le _ _).1 (secLt_le _ _).2).mono (by
    rintro e w' ⟨q1, q2⟩
    exact ⟨q1, bel3K hb q2⟩)
  clear c1 c4 d0 d1 d2 d3 d4 d5 d6 d7 hB hW HC HD hb0
  go_region_held3 (fun w' => Below W.heap.size W w') (first | assumption | exact hW0.drew | exact hSw.drew) (first
    | (go_at_call 19; refine (HD2.out _ (by assumption)).mono ?_; rintro e w6 ⟨rfl, hS6⟩)
    | (go_at_call 18; refine (HC2.out _ (by assumption)).mono ?_; rintro e w7 ⟨rfl, hS7⟩))
  have HZ : Below w.heap.size w _ := bel3K HX.out hS7
  go_wp2
  go_ret
  exact ⟨by rw [HE.out]; rfl, HZ⟩
end Go.Proofs.Ytnajnfnkpcpacaa
