import Derived.Test.YtnfplepaejjmfaaGreatDoorM10
import Derived.Laws.AppendOwn

-- ArcEach: told's closure.
namespace Go.Proofs.YtnfplepaejjmfaaGreatDoor
open Go.ChangeShapes Go.WideShapes Go.ChangeAt Go.RowKit Go.Shelf
set_option linter.unusedVariables false
set_option maxRecDepth 100000

theorem Fr.kq {n₀ B : Nat} {W W' : World} {cs : Array Value} {t : TypeId} (h : Kq B W W') (hB : W.heap[B]? = some (.cells cs t (0, 0))) (hn : n₀ ≤ B) (h1 : t ≠ 111) (h2 : t ≠ 9) (h3 : t ≠ 86) : Fr n₀ W W' := by
  refine ⟨h.below hn (Nat.le_trans hn (Nat.le_of_lt (Array.getElem?_eq_some_iff.1 hB).1)), fun r o hr ho => h.keeps ?_ hr⟩
  rintro rfl
  apply ho
  rw [hB] at hr
  injection hr with hr
  exact ⟨cs, t, (0, 0), hr.symm, h1, h2, h3⟩
/-- what was told so far, in memory -/
structure TL (n₀ BL Bs Bt Bk : Nat) (ats : List Int) (mem : List Mb) (W : World) : Prop where
  ex : ∃ aa la ca am lm cm, W.heap[BL]? = some (.cells #[.slice aa la ca, .slice am lm cm] 25 (0, 0)) ∧ W.ownsRow n₀ 3 1 (.slice aa la ca) ats.length (atsV ats) ∧ W.ownsRow n₀ 54 7 (.slice am lm cm) mem.length (mbsV mem) ∧ (∀ g', (Value.slice aa la ca).ownBlock = some g' → g' ≠ Bk)
  bs : W.heap[Bs]? = some (.cells #[.bool false] 4 (0, 0))
  bt : W.heap[Bt]? = some (.cells #[.bool false] 4 (0, 0))
  bk : W.heap[Bk]? = some (.cells #[.int .i64 (-1)] 3 (0, 0))
theorem cells2 {v0 v1 : Value} {W : World} {B : Nat} {t : TypeId} (h : W.heap[B]? = some (.cells #[v0, v1] t (0, 0))) : W.cell? ⟨B, 0, none⟩ = some v0 ∧ W.cell? ⟨B, 1, none⟩ = some v1 := ⟨cell_row h 0 _ rfl, cell_row h 1 _ rfl⟩
theorem cells7 {v0 v1 v2 v3 v4 v5 v6 : Value} {W : World} {B : Nat} {t : TypeId} (h : W.heap[B]? = some (.cells #[v0, v1, v2, v3, v4, v5, v6] t (0, 0))) : W.cell? ⟨B, 0, none⟩ = some v0 ∧ W.cell? ⟨B, 1, none⟩ = some v1 ∧ W.cell? ⟨B, 2, none⟩ = some v2 ∧ W.cell? ⟨B, 3, none⟩ = some v3 ∧ W.cell? ⟨B, 4, none⟩ = some v4 ∧ W.cell? ⟨B, 5, none⟩ = some v5 ∧ W.cell? ⟨B, 6, none⟩ = some v6 := ⟨cell_row h 0 _ rfl, cell_row h 1 _ rfl, cell_row h 2 _ rfl, cell_row h 3 _ rfl, cell_row h 4 _ rfl, cell_row h 5 _ rfl, cell_row h 6 _ rfl⟩
theorem kept_ne {B : Nat} {W W' : World} {v : Value} {o : Obj} (h : W.heap[B]? = some o) (hne : ∀ g', v.ownBlock = some g' → g' ≠ B) (hg : W.grownBy W' v.ownBlock) : W'.heap[B]? = some o :=
  (hg.block B (Array.getElem?_eq_some_iff.1 h).1 (fun e => hne B e.symm rfl)).trans h
theorem ne_block {B N : Nat} {v v' : Value} (h : v'.ownBlock = v.ownBlock ∨ v'.ownBlock = some N) (hne : ∀ g', v.ownBlock = some g' → g' ≠ B) (hB : B < N) : ∀ g', v'.ownBlock = some g' → g' ≠ B := by
  intro g' e
  rcases h with q | q
  · exact hne g' (q ▸ e)
  · rw [q] at e; injection e with e; omega
theorem ne_type {A B : Nat} {W : World} {a b : Array Value} {t s : TypeId} (h : W.heap[A]? = some (.cells a t (0, 0))) (k : W.heap[B]? = some (.cells b s (0, 0))) (hts : t ≠ s) : A ≠ B := by
  rintro rfl
  rw [h] at k
  injection k with k
  injection k with _ k _
  exact hts k
theorem kbs {Bs Bk : Nat} {W W' : World} {a b : Array Value} (q : Kq Bs W W') (hs : W.heap[Bs]? = some (.cells a 4 (0, 0))) (hk : W.heap[Bk]? = some (.cells b 3 (0, 0))) : W'.heap[Bk]? = some (.cells b 3 (0, 0)) := by
  refine q.keeps ?_ hk
  rintro rfl
  rw [hs] at hk
  injection hk with hk
  injection hk with _ hk _
  cases hk
set_option maxHeartbeats 4000000 in
theorem told1_w (n₀ BL Bs Bt Bk : Nat) (at_ : Int) (d u g m s : Int) (n da : ByteArray) (aa am : Option Addr) (la ca lm cm : Nat) (xa xm : List Value) (ka km : Nat) (w : World) (hn : n₀ ≤ w.heap.size)
    (hL : w.heap[BL]? = some (.cells #[.slice aa la ca, .slice am lm cm] 25 (0, 0))) (hA : w.ownsRow n₀ 3 1 (.slice aa la ca) ka xa) (hM : w.ownsRow n₀ 54 7 (.slice am lm cm) km xm)
    (hs : w.heap[Bs]? = some (.cells #[.bool false] 4 (0, 0))) (hbt : w.heap[Bt]? = some (.cells #[.bool false] 4 (0, 0))) (hts : Bt ≠ Bs) (hk : w.heap[Bk]? = some (.cells #[.int .i64 (-1)] 3 (0, 0))) (hnL : n₀ ≤ BL) (hns : n₀ ≤ Bs) (hak : ∀ g', (Value.slice aa la ca).ownBlock = some g' → g' ≠ Bk) (hLs : BL ≠ Bs) (hka : ka < 4294967296) (hkm : km < 4294967296) (R : Nat) (yv : Array Value) (hY : w.heap[R]? = some (.cells yv 74 (0, 0))) :
    Calls Tryz.prog 27 #[.int .i64 at_, .agg #[.int .i64 d, .int .i64 u, .int .i64 g, .int .i64 m, .string n, .int .i64 s, .string da], .pointer (some ⟨Bs, 0, none⟩), .pointer (some ⟨Bt, 0, none⟩), .pointer (some ⟨BL, 0, none⟩), .pointer (some ⟨Bk, 0, none⟩)] w fun e w' => e = .returned (.bool true) ∧ (∃ aa la ca am lm cm, w'.heap[BL]? = some (.cells #[.slice aa la ca, .slice am lm cm] 25 (0, 0)) ∧ w'.ownsRow n₀ 3 1 (.slice aa la ca) (ka + 1) (xa ++ [.int .i64 at_]) ∧ w'.ownsRow n₀ 54 7 (.slice am lm cm) (km + 1) (xm ++ [.int .i64 d, .int .i64 u, .int .i64 g, .int .i64 m, .string n, .int .i64 s, .string da]) ∧ (∀ g', (Value.slice aa la ca).ownBlock = some g' → g' ≠ Bk)) ∧ w'.heap[Bs]? = some (.cells #[.bool false] 4 (0, 0)) ∧ w'.heap[Bt]? = some (.cells #[.bool false] 4 (0, 0)) ∧ w'.heap[Bk]? = some (.cells #[.int .i64 (-1)] 3 (0, 0)) ∧ Fr n₀ w w' ∧ w'.heap[R]? = some (.cells yv 74 (0, 0)) := by
  obtain ⟨i0, hi, hz0, hz1, hz2⟩ := info_parts infoM
  obtain ⟨i3, hi3, hy0, hy1, hy2⟩ := info_parts info3
  have L0 := hup hL (.cells #[.int .i64 d, .int .i64 u, .int .i64 g, .int .i64 m, .string n, .int .i64 s, .string da] 54)
  have A0 := own_up hA (.cells #[.int .i64 d, .int .i64 u, .int .i64 g, .int .i64 m, .string n, .int .i64 s, .string da] 54)
  have M0 := own_up hM (.cells #[.int .i64 d, .int .i64 u, .int .i64 g, .int .i64 m, .string n, .int .i64 s, .string da] 54)
  have T0 := hup hbt (.cells #[.int .i64 d, .int .i64 u, .int .i64 g, .int .i64 m, .string n, .int .i64 s, .string da] 54)
  have hLt : BL ≠ Bt := ne_type hL hbt (by decide)
  have S0 := hup hs (.cells #[.int .i64 d, .int .i64 u, .int .i64 g, .int .i64 m, .string n, .int .i64 s, .string da] 54)
  have K0 := hup hk (.cells #[.int .i64 d, .int .i64 u, .int .i64 g, .int .i64 m, .string n, .int .i64 s, .string da] 54)
  have X0 := heap_alloc_new w (.cells #[.int .i64 d, .int .i64 u, .int .i64 g, .int .i64 m, .string n, .int .i64 s, .string da] 54)
  have F0 : Fr n₀ w (w.alloc (.cells #[.int .i64 d, .int .i64 u, .int .i64 g, .int .i64 m, .string n, .int .i64 s, .string da] 54)) := Fr.alloc hn _
  have hlL : BL < w.heap.size := (Array.getElem?_eq_some_iff.1 hL).1
  have hls : Bs < w.heap.size := (Array.getElem?_eq_some_iff.1 hs).1
  have hlk : Bk < w.heap.size := (Array.getElem?_eq_some_iff.1 hk).1
  have hLk : BL ≠ Bk := ne_type hL hk (by decide)
  have c0 := cell_row S0 0 _ rfl
  obtain ⟨l0, l1⟩ := cells2 L0
  have Y0 := hup hY (.cells #[.int .i64 d, .int .i64 u, .int .i64 g, .int .i64 m, .string n, .int .i64 s, .string da] 54)
  have hRL : R ≠ BL := ne_type hY hL (by decide)
  have hRs : R ≠ Bs := ne_type hY hs (by decide)
  clear hL hA hM hs hk hbt hY
  go_enter Tryz.func27, Tryz.ntmps27
  go_wp2_with first
    | (refine wpList_append_own_at _ rfl (.tmp 11) (.tmp 13) 22 rfl n₀ 3 i3 (.int .i64 0) 1 8 Tryz.underlying22 hi3 hy0 hy1 hy2 rfl (by decide) (.slice aa la ca) ka xa rfl (own_up A0 (.cells #[.int .i64 at_] 3)) ⟨(w.alloc (.cells #[.int .i64 d, .int .i64 u, .int .i64 g, .int .i64 m, .string n, .int .i64 s, .string da] 54)).heap.size, 0, none⟩ 1 1 [.int .i64 at_] (by first | rfl | simp [Act.eval]) rfl (new_row _ #[.int .i64 at_] 3 [.int .i64 at_] rfl) (by intro u hu; simp at hu; subst hu; rfl) (by unfold maxLen; omega) (by omega) (by simp only [World.size_alloc]; omega) ?_; intro v1 w1 o1 g1 _ at1; obtain ⟨g2, c2, rfl⟩ := ownsRow_succ o1; have L1 := row_grown (hup L0 (.cells #[.int .i64 at_] 3)) (own_up A0 (.cells #[.int .i64 at_] 3)) (by decide) g1; have Y1 := row_grown (hup Y0 (.cells #[.int .i64 at_] 3)) (own_up A0 (.cells #[.int .i64 at_] 3)) (by decide) g1; have S1 := row_grown (hup S0 (.cells #[.int .i64 at_] 3)) (own_up A0 (.cells #[.int .i64 at_] 3)) (by decide) g1; have T1 := row_grown (hup T0 (.cells #[.int .i64 at_] 3)) (own_up A0 (.cells #[.int .i64 at_] 3)) (by decide) g1; have K1 := kept_ne (hup K0 (.cells #[.int .i64 at_] 3)) hak g1; have X1 := row_grown (hup X0 (.cells #[.int .i64 at_] 3)) (own_up A0 (.cells #[.int .i64 at_] 3)) (by decide) g1; have M1 := own_grown (own_up M0 (.cells #[.int .i64 at_] 3)) (own_up A0 (.cells #[.int .i64 at_] 3)) (by decide) g1; have F1 := (F0.trans (Fr.alloc (by simp only [World.size_alloc]; omega) (.cells #[.int .i64 at_] 3))).trans (Fr.grown g1 (own_up A0 (.cells #[.int .i64 at_] 3)) (by simp only [World.size_alloc]; omega) (by decide) (by decide) (by decide)); have hak1 := ne_block at1 hak (by simp only [World.size_alloc]; omega); obtain ⟨l2, l3⟩ := cells2 L1)
    | (refine wpList_store_kz rfl rfl _ _ _ rfl BL 0 (.slice (some ⟨g2, 0, none⟩) (ka + 1) c2) rfl rfl _ _ #[.slice (some ⟨g2, 0, none⟩) (ka + 1) c2, .slice am lm cm] L1 (by kernel_rfl) rfl rfl rfl ?_; intro W2 L2 q2; have Y2 := q2.keeps hRL Y1; have S2 := q2.keeps (by omega) S1; have T2 := q2.keeps (by omega) T1; have K2 := q2.keeps (by omega) K1; have X2 := q2.keeps (by omega) X1; have A2 := own_kq o1 q2 L1 (by decide); have M2 := own_kq M1 q2 L1 (by decide); have F2 := F1.trans (Fr.kq q2 L1 hnL (by decide) (by decide) (by decide)); obtain ⟨l4, l5⟩ := cells2 L2; obtain ⟨x0, x1, x2, x3, x4, x5, x6⟩ := cells7 X2)
    | (refine wpList_append_own _ rfl (.tmp 17) (.tmp 19) 23 rfl n₀ 54 i0 (.agg #[.int .i64 0, .int .i64 0, .int .i64 0, .int .i64 0, .string ⟨#[]⟩, .int .i64 0, .string ⟨#[]⟩]) 7 72 Tryz.underlying23 hi hz0 hz1 hz2 rfl (by decide) (.slice am lm cm) km xm rfl (own_up M2 (.cells #[.int .i64 d, .int .i64 u, .int .i64 g, .int .i64 m, .string n, .int .i64 s, .string da] 54)) ⟨W2.heap.size, 0, none⟩ 1 1 [.int .i64 d, .int .i64 u, .int .i64 g, .int .i64 m, .string n, .int .i64 s, .string da] rfl rfl (new_row W2 #[.int .i64 d, .int .i64 u, .int .i64 g, .int .i64 m, .string n, .int .i64 s, .string da] 54 [.int .i64 d, .int .i64 u, .int .i64 g, .int .i64 m, .string n, .int .i64 s, .string da] rfl) (by intro u hu; simp at hu; rcases hu with rfl | rfl | rfl | rfl | rfl | rfl | rfl <;> rfl) (by unfold maxLen; omega) (by omega) (Nat.le_trans hn (by rw [World.size_alloc]; exact Nat.le_succ_of_le F2.below.size)) ?_; intro v3 w3 o3 g3 _; obtain ⟨g4, c4, rfl⟩ := ownsRow_succ o3; have L3 := row_grown (hup L2 (.cells #[.int .i64 d, .int .i64 u, .int .i64 g, .int .i64 m, .string n, .int .i64 s, .string da] 54)) (own_up M2 (.cells #[.int .i64 d, .int .i64 u, .int .i64 g, .int .i64 m, .string n, .int .i64 s, .string da] 54)) (by decide) g3; have Y3 := row_grown (hup Y2 (.cells #[.int .i64 d, .int .i64 u, .int .i64 g, .int .i64 m, .string n, .int .i64 s, .string da] 54)) (own_up M2 (.cells #[.int .i64 d, .int .i64 u, .int .i64 g, .int .i64 m, .string n, .int .i64 s, .string da] 54)) (by decide) g3; have S3 := row_grown (hup S2 (.cells #[.int .i64 d, .int .i64 u, .int .i64 g, .int .i64 m, .string n, .int .i64 s, .string da] 54)) (own_up M2 (.cells #[.int .i64 d, .int .i64 u, .int .i64 g, .int .i64 m, .string n, .int .i64 s, .string da] 54)) (by decide) g3; have T3 := row_grown (hup T2 (.cells #[.int .i64 d, .int .i64 u, .int .i64 g, .int .i64 m, .string n, .int .i64 s, .string da] 54)) (own_up M2 (.cells #[.int .i64 d, .int .i64 u, .int .i64 g, .int .i64 m, .string n, .int .i64 s, .string da] 54)) (by decide) g3; have K3 := row_grown (hup K2 (.cells #[.int .i64 d, .int .i64 u, .int .i64 g, .int .i64 m, .string n, .int .i64 s, .string da] 54)) (own_up M2 (.cells #[.int .i64 d, .int .i64 u, .int .i64 g, .int .i64 m, .string n, .int .i64 s, .string da] 54)) (by decide) g3; have A3 := own_grown (own_up A2 (.cells #[.int .i64 d, .int .i64 u, .int .i64 g, .int .i64 m, .string n, .int .i64 s, .string da] 54)) (own_up M2 (.cells #[.int .i64 d, .int .i64 u, .int .i64 g, .int .i64 m, .string n, .int .i64 s, .string da] 54)) (by decide) g3; have F3 := (F2.trans (Fr.alloc (Nat.le_trans hn F2.below.size) (.cells #[.int .i64 d, .int .i64 u, .int .i64 g, .int .i64 m, .string n, .int .i64 s, .string da] 54))).trans (Fr.grown g3 (own_up M2 (.cells #[.int .i64 d, .int .i64 u, .int .i64 g, .int .i64 m, .string n, .int .i64 s, .string da] 54)) (Nat.le_trans hn (by rw [World.size_alloc]; exact Nat.le_succ_of_le F2.below.size)) (by decide) (by decide) (by decide)); obtain ⟨l6, l7⟩ := cells2 L3)
    | (refine wpList_store_kz rfl rfl _ _ _ rfl BL 1 (.slice (some ⟨g4, 0, none⟩) (km + 1) c4) rfl rfl _ _ #[.slice (some ⟨g2, 0, none⟩) (ka + 1) c2, .slice (some ⟨g4, 0, none⟩) (km + 1) c4] L3 (by kernel_rfl) rfl rfl rfl ?_; intro W4 L4 q4; have Y4 := q4.keeps hRL Y3; have S4 := q4.keeps (by omega) S3; have T4 := q4.keeps (by omega) T3; have K4 := q4.keeps (by omega) K3; have A4 := own_kq A3 q4 L3 (by decide); have M4 := own_kq o3 q4 L3 (by decide); have F4 := F3.trans (Fr.kq q4 L3 hnL (by decide) (by decide) (by decide)); obtain ⟨l8, l9⟩ := cells2 L4; have k4 := cell_row K4 0 _ rfl; have bk : ((ka : Int) + 1 == -1) = false := by simp; omega)
    | (refine wpList_store_kz rfl rfl _ _ _ rfl Bs 0 (.bool false) rfl rfl _ _ #[.bool false] S4 (by kernel_rfl) rfl rfl rfl ?_; intro W5 S5 q5; have Y5 := q5.keeps hRs Y4; have L5 := q5.keeps hLs L4; have T5 := q5.keeps hts T4; have K5 := kbs q5 S4 K4; have A5 := own_kq A4 q5 S4 (by decide); have M5 := own_kq M4 q5 S4 (by decide); have F5 := F4.trans (Fr.kq q5 S4 hns (by decide) (by decide) (by decide)); have s5 := cell_row S5 0 _ rfl)
  go_ret
  exact ⟨rfl, ⟨_, _, _, _, _, _, L5, A5, M5, hak1⟩, S5, T5, K5, F5, Y5⟩
theorem told1_c (n₀ BL Bs Bt Bk : Nat) (at_ : Int) (x : Mb) (ats : List Int) (mem : List Mb) (w : World) (hn : n₀ ≤ w.heap.size) (h : TL n₀ BL Bs Bt Bk ats mem w) (hnL : n₀ ≤ BL) (hns : n₀ ≤ Bs) (hts : Bt ≠ Bs) (hLs : BL ≠ Bs) (hka : ats.length < 4294967296) (hkm : mem.length < 4294967296) (R : Nat) (yv : Array Value) (hY : w.heap[R]? = some (.cells yv 74 (0, 0))) :
    Calls Tryz.prog 27 #[.int .i64 at_, mbV x, .pointer (some ⟨Bs, 0, none⟩), .pointer (some ⟨Bt, 0, none⟩), .pointer (some ⟨BL, 0, none⟩), .pointer (some ⟨Bk, 0, none⟩)] w fun e w' => e = .returned (.bool true) ∧ TL n₀ BL Bs Bt Bk (ats ++ [at_]) (mem ++ [x]) w' ∧ Fr n₀ w w' ∧ w'.heap[R]? = some (.cells yv 74 (0, 0)) := by
  obtain ⟨⟨aa, la, ca, am, lm, cm, hL, hA, hM, hak⟩, hs, hbt, hk⟩ := h
  obtain ⟨⟨d, u, g, m, n, s⟩, da⟩ := x
  refine (told1_w n₀ BL Bs Bt Bk at_ d u g m s n da aa am la ca lm cm _ _ _ _ w hn hL hA hM hs hbt hts hk hnL hns hak hLs hka hkm R yv hY).mono ?_
  rintro e w' ⟨h1, ⟨aa, la, ca, am, lm, cm, q1, q2, q3, q4⟩, h3, h4, h5, h6, h7⟩
  refine ⟨h1, ⟨⟨aa, la, ca, am, lm, cm, q1, ?_, ?_, q4⟩, h3, h4, h5⟩, h6, h7⟩
  · rw [atsV_snoc, List.length_append]; exact q2
  · rw [mbsV_snoc, List.length_append]; exact q3
theorem TL.tn {n₀ BL Bs Bt Bk C : Nat} {ats : List Int} {mem : List Mb} {W W' : World} (h : TL n₀ BL Bs Bt Bk ats mem W) (k : Tn 111 C W W') : TL n₀ BL Bs Bt Bk ats mem W' := by
  obtain ⟨⟨aa, la, ca, am, lm, cm, hL, hA, hM, hak⟩, hs, hbt, hk⟩ := h
  exact ⟨⟨aa, la, ca, am, lm, cm, k.row hL (by decide), k.own hA (by decide), k.own hM (by decide), hak⟩, k.row hs (by decide), k.row hbt (by decide), k.row hk (by decide)⟩
end Go.Proofs.YtnfplepaejjmfaaGreatDoor

-- ArcEach: the iterator over the members.
namespace Go.Proofs.YtnfplepaejjmfaaGreatDoor
open Go.RowKit Go.Shelf
set_option linter.unusedVariables false
set_option maxRecDepth 100000
attribute [local go_sem] Oper.semAt_some
theorem skipFn {p : FuncId → Prop} : (∀ f : FuncId, (none : Option FuncId) = some f → p f) ↔ True := ⟨fun _ => trivial, fun _ f h => by cases h⟩
attribute [local go_sem] skipFn true_and
theorem TL.on {n₀ BL Bs Bt Bk : Nat} {ats : List Int} {mem : List Mb} {W W' : World} (h : TL n₀ BL Bs Bt Bk ats mem W) (k : Below W.heap.size W W') : TL n₀ BL Bs Bt Bk ats mem W' := by
  obtain ⟨⟨aa, la, ca, am, lm, cm, hL, hA, hM, hak⟩, hs, hbt, hk⟩ := h
  exact ⟨⟨aa, la, ca, am, lm, cm, hkeep k hL, own_on hA k, own_on hM k, hak⟩, hkeep k hs, hkeep k hbt, hkeep k hk⟩
/-- what the loop has kept -/
def EI (n₀ S BL Bs Bt Bk : Nat) (w : World) (yv : Value) (k0 : Int) (pre : List Pt) (W : World) : Prop :=
  TL n₀ BL Bs Bt Bk (arK0 k0 pre).ats (arK0 k0 pre).mem W ∧ W.heap[S]? = some (.cells #[yv] 74 (0, 0)) ∧ Below n₀ w W ∧ (∀ x ∈ pre, x.e = 0) ∧ S + 2 ≤ W.heap.size
def EX (n₀ S BL Bs Bt Bk : Nat) (w : World) (k0 : Int) (c : Code) (pre : List Pt) (W : World) : Prop :=
  c = .ret ∧ ∃ (x : Pt) (pre' : List Pt), pre = pre' ++ [x] ∧ ¬ x.e = 0 ∧ TL n₀ BL Bs Bt Bk (arK0 k0 pre').ats (arK0 k0 pre').mem W ∧ Below n₀ w W ∧ S + 2 ≤ W.heap.size
/-- what Each tells -/
def EAns (b : ByteArray) (ats : List Int) (mem : List Mb) : Prop := (¬ magic b ∧ ats = [] ∧ mem = []) ∨ (magic b ∧ ∃ n, First b n ∧ ats = (arK b n).ats ∧ mem = (arK b n).mem)
set_option maxHeartbeats 4000000 in
theorem each1_c (n₀ Bb BL Bs Bt Bk : Nat) (b : ByteArray) (w : World) (hb : b.size < 4294967281) (hC : Cols w) (hM : MaxLenAt w) (hg1 : 0 < n₀) (hg2 : 4 < n₀) (hn : n₀ ≤ w.heap.size) (hBb : w.heap[Bb]? = some (.cells #[.string b] 9 (0, 0))) (hnb : n₀ ≤ Bb)
    (hT : TL n₀ BL Bs Bt Bk [] [] w) (hnL : n₀ ≤ BL) (hns : n₀ ≤ Bs) (hts : Bt ≠ Bs) (hLs : BL ≠ Bs) :
    Calls Tryz.prog 47 #[(.func (.func 27) #[] #[.pointer (some ⟨Bs, 0, none⟩), .pointer (some ⟨Bt, 0, none⟩), .pointer (some ⟨BL, 0, none⟩), .pointer (some ⟨Bk, 0, none⟩)]), .pointer (some ⟨Bb, 0, none⟩)] w fun e w' => (∃ v, e = .returned v) ∧ (∃ ats mem, EAns b ats mem ∧ TL n₀ BL Bs Bt Bk ats mem w') ∧ Below n₀ w w' := by
  refine (callsIn_wide (n := 3)).1 ?_
  have HPt : Hid (∀ w, CallsIn Fence.wide 2 Tryz.prog 33 #[.string b] w fun e w' => e = .returned (.func (.func 52) #[] #[.pointer (some ⟨w.heap.size, 0, none⟩)]) ∧ w' = w.alloc (.cells #[.string b] 9)) := fun w => callsIn_wide.2 (parts_c b w)
  have cb := cell_row hBb 0 _ rfl
  have hlb : Bb < w.heap.size := (Array.getElem?_eq_some_iff.1 hBb).1
  refine callsIn_of_wp_marks Tryz.func47 rfl trivial ?_ rfl
  simp only [Tryz.ntmps47, List.size_toArray, List.length_cons, List.length_nil, Nat.reduceAdd, Nat.reduceSub, Array.replicate_succ, Array.replicate_zero, List.push_toArray, List.append_toArray, List.nil_append, List.cons_append]
  gi_wp2_with (refine ⟨trivial, ?_⟩; gi_at_call 33; refine (HPt.out _).mono ?_; rintro e w' ⟨rfl, hw'⟩; subst w')
  obtain ⟨S, hS⟩ : ∃ S, S = w.heap.size := ⟨_, rfl⟩
  obtain ⟨W0, hW0⟩ : ∃ W0, W0 = (w.alloc (.cells #[(.func (.func 27) #[] #[.pointer (some ⟨Bs, 0, none⟩), .pointer (some ⟨Bt, 0, none⟩), .pointer (some ⟨BL, 0, none⟩), .pointer (some ⟨Bk, 0, none⟩)])] 74)).alloc (.cells #[.string b] 9) := ⟨_, rfl⟩
  have z0 : W0.heap.size = S + 2 := by rw [hW0, hS]; simp only [World.size_alloc]
  have zy : W0.heap[S]? = some (.cells #[(.func (.func 27) #[] #[.pointer (some ⟨Bs, 0, none⟩), .pointer (some ⟨Bt, 0, none⟩), .pointer (some ⟨BL, 0, none⟩), .pointer (some ⟨Bk, 0, none⟩)])] 74 (0, 0)) := by rw [hW0, hS]; exact hup (heap_alloc_new w _) _
  have zb : W0.heap[S + 1]? = some (.cells #[.string b] 9 (0, 0)) := by rw [hW0, hS]; exact heap_new2 w _ _
  have zw' : Below w.heap.size w W0 := by rw [hW0]; exact bup (bup (Below.refl _ _) _) _
  have zw : Below n₀ w W0 := zw'.mono hn
  have hC0 : Cols W0 := hC.on zw'
  have hM0 : MaxLenAt W0 := hM.on zw'
  have zt : TL n₀ BL Bs Bt Bk [] [] W0 := hT.on zw'
  have hseq := parts_seq look_c 2 (S + 1) n₀ b hb W0 zb (by omega) hC0 hM0 hg1 hg2
  change Code.wpIn Fence.wide 3 Tryz.prog _ _ _ ((w.alloc (.cells #[(.func (.func 27) #[] #[.pointer (some ⟨Bs, 0, none⟩), .pointer (some ⟨Bt, 0, none⟩), .pointer (some ⟨BL, 0, none⟩), .pointer (some ⟨Bk, 0, none⟩)])] 74)).alloc (.cells #[.string b] 9))
  rw [← hW0, ← hS]
  obtain ⟨k0, hk0⟩ : ∃ k0, k0 = kind0 b := ⟨_, rfl⟩
  have HS := hidT (And.intro hk0 (And.intro z0 hS))
  have hnS : n₀ ≤ S := by omega
  have hz0 : S + 2 ≤ W0.heap.size := by omega
  clear hW0 hk0 hC hM hT cb hBb hlb hS z0 hn zw'
  have hTn : ∀ (pre : List Pt) (A C : World), EI n₀ S BL Bs Bt Bk w (.func (.func 27) #[] #[.pointer (some ⟨Bs, 0, none⟩), .pointer (some ⟨Bt, 0, none⟩), .pointer (some ⟨BL, 0, none⟩), .pointer (some ⟨Bk, 0, none⟩)]) k0 pre A → Tn 111 W0.heap.size A C → EI n₀ S BL Bs Bt Bk w (.func (.func 27) #[] #[.pointer (some ⟨Bs, 0, none⟩), .pointer (some ⟨Bt, 0, none⟩), .pointer (some ⟨BL, 0, none⟩), .pointer (some ⟨Bk, 0, none⟩)]) k0 pre C := fun pre A C h k =>
    ⟨h.1.tn k, k.row h.2.1 (by decide), h.2.2.1.trans (k.below (by omega) (by have := h.2.2.2.2; omega)), h.2.2.2.1, Nat.le_trans h.2.2.2.2 k.size⟩
  refine rangeT (T := 111) rfl (by omega) (gf := 52) (lb := #[.pointer (some ⟨S + 1, 0, none⟩)]) rfl trivial (enters_of Tryz.func52 (by kernel_rfl) rfl) hseq Kp.trans (fun W l o o' hl h1 h2 => Kp.put W l o o' (by omega) h1 h2) (fun _ => rfl)
    (EI n₀ S BL Bs Bt Bk w (.func (.func 27) #[] #[.pointer (some ⟨Bs, 0, none⟩), .pointer (some ⟨Bt, 0, none⟩), .pointer (some ⟨BL, 0, none⟩), .pointer (some ⟨Bk, 0, none⟩)]) k0) (EX n₀ S BL Bs Bt Bk w k0) hTn
    (fun c pre A C h k => ⟨h.1, by obtain ⟨x, pre', q1, q2, q3, q4, q5⟩ := h.2; exact ⟨x, pre', q1, q2, q3.tn k, q4.trans (k.below (by omega) (by omega)), Nat.le_trans q5 k.size⟩⟩)
    ⟨zt, zy, zw, fun x hx => absurd hx (List.not_mem_nil), by omega⟩
    (fun x a' W => ∃ BX, W.heap[BX]? = some (.cells (rowP x) 86 (0, 0)) ∧ a' = { tmps := #[(.func (.func 27) #[] #[.pointer (some ⟨Bs, 0, none⟩), .pointer (some ⟨Bt, 0, none⟩), .pointer (some ⟨BL, 0, none⟩), .pointer (some ⟨Bk, 0, none⟩)]), .pointer (some ⟨Bb, 0, none⟩), .pointer (some ⟨S, 0, none⟩), .pointer (some ⟨BX, 0, none⟩), .int .i64 x.e, .string b, .func (.func 52) #[] #[.pointer (some ⟨S + 1, 0, none⟩)], ptV x, .int .i64 x.e, undef, undef, undef, undef, undef, undef, undef, undef, undef, undef, undef, undef, undef], defers := [] })
    (fun x a' s W W' h k => by obtain ⟨Bx, q1, q2⟩ := h; exact ⟨Bx, k.row q1 (by decide), q2⟩)
    ?assign ?body ?done ?stop
  case assign =>
    intro l pre x W K hi hK
    have hb1 : Below W.heap.size W (W.alloc (.cells (rowP x) 86)) := bup (Below.refl _ _) _
    have h1 := hTn pre W _ hi (Tn.of hb1)
    have h2 : Kp n₀ W (W.alloc (.cells (rowP x) 86)) := (Fr.alloc (by have := hi.2.2.2.2; omega) _).kp
    have hk' := hK { tmps := #[(.func (.func 27) #[] #[.pointer (some ⟨Bs, 0, none⟩), .pointer (some ⟨Bt, 0, none⟩), .pointer (some ⟨BL, 0, none⟩), .pointer (some ⟨Bk, 0, none⟩)]), .pointer (some ⟨Bb, 0, none⟩), .pointer (some ⟨S, 0, none⟩), .pointer (some ⟨W.heap.size, 0, none⟩), .int .i64 x.e, .string b, .func (.func 52) #[] #[.pointer (some ⟨S + 1, 0, none⟩)], ptV x, .int .i64 x.e, undef, undef, undef, undef, undef, undef, undef, undef, undef, undef, undef, undef, undef], defers := [] } (W.alloc (.cells (rowP x) 86)) ((KeepsOthers.alloc _ _).from _) h2 h1 ⟨W.heap.size, heap_alloc_new W _, rfl⟩
    unfold rowP at hk'
    clear hK h1 h2 hb1 hi hTn hseq
    unfold encP ptV
    gi_wp2
    exact hk'
  case body =>
    rintro l pre x a' W ⟨hp, hz, hbw, hall, hsz⟩ ⟨Bx, hx, rfl⟩ hlen
    obtain ⟨⟨d, u, g, m, nn, sz⟩, a, z, kd, ⟨so, nu, fn⟩, nm, da, e⟩ := x
    by_cases he : e = 0
    · subst he
      have HO : Hid (∀ W', CallsIn Fence.wide 0 Tryz.prog 48 #[.agg #[.int .i64 d, .int .i64 u, .int .i64 g, .int .i64 m, .string nn, .int .i64 sz, .int .i64 a, .int .i64 z, .int .i64 kd, .int .i64 so, .int .i64 nu, .string fn, .string nm, .string da]] W' fun e w' => e = .returned (.bool (decide (ordS so))) ∧ Below W'.heap.size W' w') := fun W' => callsIn_wide.2 (isOrd_c d u g m sz a z kd so nu nn fn nm da W')
      have HM : Hid (∀ W', CallsIn Fence.wide 0 Tryz.prog 49 #[.agg #[.int .i64 d, .int .i64 u, .int .i64 g, .int .i64 m, .string nn, .int .i64 sz, .int .i64 a, .int .i64 z, .int .i64 kd, .int .i64 so, .int .i64 nu, .string fn, .string nm, .string da]] W' fun e w' => e = .returned (.agg #[.int .i64 d, .int .i64 u, .int .i64 g, .int .i64 m, .string nm, .int .i64 sz, .string da]) ∧ Below W'.heap.size W' w') := fun W' => callsIn_wide.2 (member_c d u g m sz a z kd so nu nn fn nm da W')
      unfold rowP at hx
      obtain ⟨q0, q1, q2, q3, q4, q5, q6, q7, q8, q9, q10, q11, q12, q13⟩ := cells14 hx
      have cy := cell_row hz 0 _ rfl
      have hsn := arK0_snoc k0 pre ⟨⟨d, u, g, m, nn, sz⟩, a, z, kd, ⟨so, nu, fn⟩, nm, da, 0⟩
      have hbx : Bx < W.heap.size := (Array.getElem?_eq_some_iff.1 hx).1
      have hbS : S < W.heap.size := (Array.getElem?_eq_some_iff.1 hz).1
      by_cases ho : ordS so
      · rw [decide_eq_true ho] at HO
        have hlen' : pre.length ≤ b.size := by omega
        have hll := arK0_len k0 pre (ar0 k0)
        have hl0 : (ar0 k0).mem.length = 0 ∧ (ar0 k0).ats.length = 0 := ⟨rfl, rfl⟩
        have hla : (arK0 k0 pre).ats.length < 4294967296 := by have e2 : arK0 k0 pre = pre.foldl addA (ar0 k0) := rfl; rw [e2]; omega
        have hlm : (arK0 k0 pre).mem.length < 4294967296 := by have e2 : arK0 k0 pre = pre.foldl addA (ar0 k0) := rfl; rw [e2]; omega
        have HY : Hid (∀ W', Below W.heap.size W W' → CallsIn Fence.wide 0 Tryz.prog 27 #[.int .i64 a, .agg #[.int .i64 d, .int .i64 u, .int .i64 g, .int .i64 m, .string nm, .int .i64 sz, .string da], .pointer (some ⟨Bs, 0, none⟩), .pointer (some ⟨Bt, 0, none⟩), .pointer (some ⟨BL, 0, none⟩), .pointer (some ⟨Bk, 0, none⟩)] W' fun e w' => e = .returned (.bool true) ∧ TL n₀ BL Bs Bt Bk (arK0 k0 (pre ++ [⟨⟨d, u, g, m, nn, sz⟩, a, z, kd, ⟨so, nu, fn⟩, nm, da, 0⟩])).ats (arK0 k0 (pre ++ [⟨⟨d, u, g, m, nn, sz⟩, a, z, kd, ⟨so, nu, fn⟩, nm, da, 0⟩])).mem w' ∧ Fr n₀ W' w' ∧ w'.heap[S]? = some (.cells #[(.func (.func 27) #[] #[.pointer (some ⟨Bs, 0, none⟩), .pointer (some ⟨Bt, 0, none⟩), .pointer (some ⟨BL, 0, none⟩), .pointer (some ⟨Bk, 0, none⟩)])] 74 (0, 0))) := fun W' hW' => by
          rw [hsn]
          unfold addA
          rw [if_pos ho]
          exact callsIn_wide.2 (told1_c n₀ BL Bs Bt Bk a ⟨⟨d, u, g, m, nm, sz⟩, da⟩ _ _ W' (Nat.le_trans (by omega) hW'.size) (hp.on hW') hnL hns hts hLs hla hlm S _ (hkeep hW' hz))
        have HX := hidT hx
        have HZ := hidT hz
        have HI := hidT (And.intro hz (And.intro hbw (And.intro hall hsz)))
        clear hp hz hbw hall hsz hx hTn zt zy zw zb hC0 hM0 hseq HPt hlen hsn hll hl0 hla hlm hlen' ho
        unfold ptV
        gi_wp2
        have hfo : Tryz.prog.follows Departure.mixedOrders = true := by kernel_rfl
        gi_region_with_o (first
          | (refine ⟨trivial, ?_⟩; gi_at_call 48; refine (CallsIn.inRound l (HO.out _)).mono ?_; rintro e w1 ⟨rfl, hb1⟩; have B1 := bel3 (show Below W.heap.size W _ by first | exact Below.refl _ _ | exact (Below.refl _ _).drew | exact (Below.refl _ _).drew.drew | exact (Below.refl _ _).drew.drew.drew) hb1; have hx1 := hkeep B1 HX.out; obtain ⟨y0, y1, y2, y3, y4, y5, y6, y7, y8, y9, y10, y11, y12, y13⟩ := cells14 hx1; have cy1 := cell_row (hkeep B1 HZ.out) 0 _ rfl)
          | (refine ⟨trivial, ?_⟩; gi_at_call 49; refine (CallsIn.inRound l (HM.out _)).mono ?_; rintro e w2 ⟨rfl, hb2⟩; have B2 := bel3 (show Below W.heap.size W _ by first | exact B1 | exact B1.drew | exact B1.drew.drew | exact B1.drew.drew.drew) hb2; have hx2 := hkeep B2 HX.out; obtain ⟨v0, v1, v2, v3, v4, v5, v6, v7, v8, v9, v10, v11, v12, v13⟩ := cells14 hx2; have cy2 := cell_row (hkeep B2 HZ.out) 0 _ rfl)
          | (refine ⟨trivial, ?_⟩; gi_at_call 27; refine (CallsIn.inRound l (HY.out _ (show Below W.heap.size W _ by first | exact B2 | exact B2.drew | exact B2.drew.drew | exact B2.drew.drew.drew))).mono ?_; rintro e w3 ⟨rfl, ht3, hf3, hy3⟩; have F3 := hf3)
          )
        all_goals gi_wp2
        all_goals
          obtain ⟨hz, hbw, hall, hsz⟩ := HI.out
          have hf : Fr n₀ W w3 := (Fr.of (n₀ := n₀) B2 (by omega)).trans F3
          refine ⟨hf.others.from _, hf.kp, ht3, ?_, hbw.trans hf.below, ?_, Nat.le_trans hsz hf.below.size⟩
          · exact hy3
          · intro y hy
            rcases List.mem_append.1 hy with q | q
            · exact hall y q
            · rw [List.mem_singleton.1 q]
      · rw [decide_eq_false ho] at HO
        have HX := hidT hx
        have HZ := hidT hz
        have hpe : (arK0 k0 (pre ++ [⟨⟨d, u, g, m, nn, sz⟩, a, z, kd, ⟨so, nu, fn⟩, nm, da, 0⟩])).ats = (arK0 k0 pre).ats ∧ (arK0 k0 (pre ++ [⟨⟨d, u, g, m, nn, sz⟩, a, z, kd, ⟨so, nu, fn⟩, nm, da, 0⟩])).mem = (arK0 k0 pre).mem := by
          rw [hsn]; unfold addA; rw [if_neg ho]
          by_cases hi : ixS so
          · rw [if_pos hi]; exact ⟨rfl, rfl⟩
          · rw [if_neg hi]; exact ⟨rfl, rfl⟩
        have HPE := hidT hpe
        have HI := hidT (And.intro hp (And.intro hz (And.intro hbw (And.intro hall hsz))))
        clear hp hz hbw hall hsz hx hTn zt zy zw zb hC0 hM0 hseq HPt hlen hsn ho hpe
        unfold ptV
        gi_wp2
        have hfo : Tryz.prog.follows Departure.mixedOrders = true := by kernel_rfl
        gi_region_with_o (first
          | (refine ⟨trivial, ?_⟩; gi_at_call 48; refine (CallsIn.inRound l (HO.out _)).mono ?_; rintro e w1 ⟨rfl, hb1⟩; have B1 := bel3 (show Below W.heap.size W _ by first | exact Below.refl _ _ | exact (Below.refl _ _).drew | exact (Below.refl _ _).drew.drew) hb1; have hx1 := hkeep B1 HX.out; obtain ⟨y0, y1, y2, y3, y4, y5, y6, y7, y8, y9, y10, y11, y12, y13⟩ := cells14 hx1; have cy1 := cell_row (hkeep B1 HZ.out) 0 _ rfl)
          | refine ⟨trivial, ?_⟩
          | refine ⟨skipFn.2 trivial, ?_⟩)
        all_goals gi_wp2
        all_goals
          obtain ⟨hp, hz, hbw, hall, hsz⟩ := HI.out
          have hf := Fr.of (n₀ := n₀) B1 (by omega)
          refine ⟨hf.others.from _, hf.kp, ?_, hkeep B1 hz, hbw.trans hf.below, ?_, Nat.le_trans hsz B1.size⟩
          · rw [HPE.out.1, HPE.out.2]; exact hp.on B1
          · intro y hy
            rcases List.mem_append.1 hy with q | q
            · exact hall y q
            · rw [List.mem_singleton.1 q]
    · have b1 : (e == 0) = false := by simp [he]
      have b2 : (e != 0) = true := by simp [bne, b1]
      have HF : Hid (EX n₀ S BL Bs Bt Bk w k0 .ret (pre ++ [⟨⟨d, u, g, m, nn, sz⟩, a, z, kd, ⟨so, nu, fn⟩, nm, da, e⟩]) W) := ⟨rfl, _, pre, rfl, he, hp, hbw, hsz⟩
      clear hp hz hbw hall hsz hx hTn zt zy zw zb hC0 hM0 hseq HPt hlen he
      unfold ptV
      gi_wp2
      exact ⟨⟨Nat.le_refl _, fun _ _ _ h _ => h⟩, HF.out⟩
  case done =>
    rintro D xs W hD hS' ⟨hp, hz, hbw, hall, hsz⟩ hK
    have hans : EAns b (arK0 k0 xs).ats (arK0 k0 xs).mem := by
      rcases hS' with ⟨_, rfl⟩ | ⟨hmg, n, hF, (⟨rfl, hps⟩ | ⟨rfl, hps⟩)⟩
      · exact absurd (hall errPt (List.mem_singleton.2 rfl)) (by decide)
      · have hk : k0 = kind0 b := HS.out.1
        exact .inr ⟨hmg, n, hF, by rw [hk]; rfl, by rw [hk]; rfl⟩
      · exact absurd ⟨hps, hall (pt b n) (List.mem_append.2 (.inr (List.mem_singleton.2 rfl)))⟩ hF.last
    have hDn : ∀ k, k ≠ D → (W.putObj D (.deferred none)).heap[k]? = W.heap[k]? := fun k hk => World.putObj_heap_other hk
    have hW2 : Below n₀ w (W.putObj D (.deferred none)) := hbw.trans ((Below.refl n₀ W).grown (grownBy_putObj' W D _) (by omega) (fun k e => by cases e; omega))
    have hT2 : TL n₀ BL Bs Bt Bk (arK0 k0 xs).ats (arK0 k0 xs).mem (W.putObj D (.deferred none)) := hp.tn (C := W0.heap.size) (Tn.putObj W D _ _ hD hK rfl)
    have HE := hidT (And.intro hW2 (And.intro hT2 hans))
    clear hW2 hT2 hans hp hz hbw hall hsz hS' hTn zt zy zw zb hC0 hM0 hseq HPt hD hDn
    gi_wp2
    refine ⟨by simp, .inl ⟨_, _, rfl, run_takeDeferred hK, ?_⟩⟩
    exact ⟨_, results_none rfl _ _ _, ⟨_, rfl⟩, ⟨_, _, HE.out.2.2, HE.out.2.1⟩, HE.out.1⟩
  case stop =>
    rintro D c pre W hD hS' ⟨rfl, x, pre', q1, q2, q3, q4, q5⟩ hK
    have hans : EAns b (arK0 k0 pre').ats (arK0 k0 pre').mem := by
      rcases hS' with ⟨hmg, rfl⟩ | ⟨hmg, k, hk, hps, rfl⟩
      · have hx : pre' = [] := by
          have h := congrArg List.length q1
          simp at h
          exact h
        rw [hx]
        exact .inl ⟨hmg, rfl, rfl⟩
      · have h2 := List.append_inj' q1 rfl
        have hx : x = pt b k := by
          have := h2.2
          injection this with h _
          exact h.symm
        rw [← h2.1]
        rw [hx] at q2
        exact .inr ⟨hmg, k, ⟨hk, fun g => q2 g.2⟩, by rw [HS.out.1]; rfl, by rw [HS.out.1]; rfl⟩
    have hW2 : Below n₀ w (W.putObj D (.deferred none)) := q4.trans ((Below.refl n₀ W).grown (grownBy_putObj' W D _) (by omega) (fun k e => by cases e; omega))
    have hT2 : TL n₀ BL Bs Bt Bk (arK0 k0 pre').ats (arK0 k0 pre').mem (W.putObj D (.deferred none)) := q3.tn (C := W0.heap.size) (Tn.putObj W D _ _ hD hK rfl)
    have HE := hidT (And.intro hW2 (And.intro hT2 hans))
    clear hW2 hT2 hans q1 q2 q3 q4 q5 hS' hTn zt zy zw zb hC0 hM0 hseq HPt hD
    gi_wp2
    refine ⟨by simp, .inl ⟨_, _, rfl, run_takeDeferred hK, ?_⟩⟩
    exact ⟨_, results_none rfl _ _ _, ⟨_, rfl⟩, ⟨_, _, HE.out.2.2, HE.out.2.1⟩, HE.out.1⟩
end Go.Proofs.YtnfplepaejjmfaaGreatDoor

-- ArcEach: the document's Told.
namespace Go.Proofs.YtnfplepaejjmfaaGreatDoor
open Go.ChangeShapes Go.WideShapes Go.ChangeAt Go.RowKit Go.Shelf
set_option linter.unusedVariables false
set_option maxRecDepth 100000
set_option maxHeartbeats 2000000 in
theorem rtold_w (b : ByteArray) (kd fm sp pc pl er : Int) (ix tb : ByteArray) (ib : Bool) (p : Ar) (w : World)
    (HR : Hid (∀ wx, Calls Tryz.prog 28 #[.string b] wx fun r w' => RdL kd fm sp pc pl er ix tb ib p wx r w')) :
    Calls Tryz.prog 10 #[.string b] w fun e w' => ∃ am lm cm aa la ca, e = .returned (.tuple #[.slice aa la ca, .slice am lm cm]) ∧ Rows2 w.heap.size w' p (.slice am lm cm) (.slice aa la ca) ∧ Below w.heap.size w w' := by
  go_enter Tryz.func10, Tryz.ntmps10
  go_wp2_with (go_at_call 28; refine (HR.out _).mono ?_; rintro r w1 ⟨am, lm, cm, aa, la, ca, rfl, ⟨hm1, ha1⟩, hb1⟩; have j0 := heap_alloc_new w1 (.cells #[.int .i64 kd, .int .i64 fm, .string ix, .int .i64 sp, .slice am lm cm, .slice aa la ca, .string tb, .int .i64 pc, .bool ib, .int .i64 pl, .int .i64 er] 76); have c4 := cell_row j0 4 _ rfl; have c5 := cell_row j0 5 _ rfl)
  go_quiet (fail)
  go_wp2
  refine bodyPost_ret (results_tmp2 rfl _ _ _) rfl ?_
  have hB : Below w1.heap.size w1 ((w1.alloc (.cells #[.int .i64 kd, .int .i64 fm, .string ix, .int .i64 sp, .slice am lm cm, .slice aa la ca, .string tb, .int .i64 pc, .bool ib, .int .i64 pl, .int .i64 er] 76)).drewN nq) := below_drewT (bup (Below.refl _ _) _) _
  exact ⟨am, lm, cm, aa, la, ca, rfl, ⟨own_on hm1 hB, own_on ha1 hB⟩, hb1.trans (hB.mono hb1.size)⟩
theorem EAns.unique {b : ByteArray} {a a' : List Int} {m m' : List Mb} (h : EAns b a m) (k : EAns b a' m') : a = a' ∧ m = m' := by
  rcases h with ⟨h1, rfl, rfl⟩ | ⟨h1, n, h2, rfl, rfl⟩ <;> rcases k with ⟨k1, rfl, rfl⟩ | ⟨k1, n', k2, rfl, rfl⟩
  · exact ⟨rfl, rfl⟩
  · exact absurd k1 h1
  · exact absurd h1 k1
  · obtain rfl := h2.unique k2; exact ⟨rfl, rfl⟩
theorem EAns.len {b : ByteArray} {a : List Int} {m : List Mb} (h : EAns b a m) : m.length ≤ b.size ∧ a.length ≤ b.size := by
  rcases h with ⟨h1, rfl, rfl⟩ | ⟨hm, n, hF, rfl, rfl⟩
  · exact ⟨Nat.zero_le _, Nat.zero_le _⟩
  · have h1 := arK_len b n
    have h2 := st_pos b (magic8 b hm) n hF.all
    omega
theorem rtold_c (b : ByteArray) (w : World) (hb : b.size < 4294967281) :
    Calls Tryz.prog 10 #[.string b] w fun e w' => ∃ am lm cm aa la ca ats mem, e = .returned (.tuple #[.slice aa la ca, .slice am lm cm]) ∧ w'.ownsRow w.heap.size 3 1 (.slice aa la ca) ats.length (atsV ats) ∧ w'.ownsRow w.heap.size 54 7 (.slice am lm cm) mem.length (mbsV mem) ∧ Below w.heap.size w w' ∧ EAns b ats mem := by
  by_cases hm : magic b
  · obtain ⟨n, hF⟩ := first_ex b (magic8 b hm)
    have HR : ∀ wx : World, Calls Tryz.prog 28 #[.string b] wx fun r w' => RdL (arK b n).kind (arK b n).form (arK b n).stamp ((st b n).cnt : Int) ((st b n).pos : Int) (if (st b n).pos < b.size then (pt b n).e else 0) (arK b n).index (st b n).tab (st b n).idx (arK b n) wx r w' := fun wx => by
      refine (read_c b wx hb hm).mono ?_
      rintro r w' ⟨n', e, am, lm, cm, aa, la, ca, hF', rfl, hR, hB, rfl⟩
      obtain rfl := hF.unique hF'
      exact ⟨am, lm, cm, aa, la, ca, rfl, hR, hB⟩
    refine (rtold_w b _ _ _ _ _ _ _ _ _ _ w HR).mono ?_
    rintro e w' ⟨am, lm, cm, aa, la, ca, rfl, hR, hB⟩
    exact ⟨am, lm, cm, aa, la, ca, _, _, rfl, hR.ats, hR.mem, hB, .inr ⟨hm, n, hF, rfl, rfl⟩⟩
  · have HR : ∀ wx : World, Calls Tryz.prog 28 #[.string b] wx fun r w' => RdL 0 0 0 0 0 90 ByteArray.empty ByteArray.empty false (ar0 0) wx r w' := fun wx => by
      refine (read_no b wx hm).mono ?_
      rintro r w' ⟨rfl, hB⟩
      exact ⟨none, 0, 0, none, 0, 0, rfl, ⟨own_nil _ _ _ _, own_nil _ _ _ _⟩, hB⟩
    refine (rtold_w b _ _ _ _ _ _ _ _ _ _ w HR).mono ?_
    rintro e w' ⟨am, lm, cm, aa, la, ca, rfl, hR, hB⟩
    exact ⟨am, lm, cm, aa, la, ca, _, _, rfl, hR.ats, hR.mem, hB, .inl ⟨hm, rfl, rfl⟩⟩
/-- Each: a closure over the text -/
theorem each_c (b : ByteArray) (w : World) : Calls Tryz.prog 26 #[.string b] w fun e w' => e = .returned (.func (.func 47) #[] #[.pointer (some ⟨w.heap.size, 0, none⟩)]) ∧ w' = w.alloc (.cells #[.string b] 9) := by
  go_enter Tryz.func26, Tryz.ntmps26
  go_wp2
  go_ret
  exact ⟨rfl, rfl⟩
end Go.Proofs.YtnfplepaejjmfaaGreatDoor

-- ArcEach: told.
namespace Go.Proofs.YtnfplepaejjmfaaGreatDoor
open Go.ChangeShapes Go.WideShapes Go.ChangeAt Go.RowKit Go.Shelf
set_option linter.unusedVariables false
set_option maxRecDepth 100000
theorem nilcmp (f : FuncId) (es ps : Array Value) (w : World) : (binOp .eql 72 (.func (.func f) es ps) .nilFunc).run Tryz.prog w = .ok (.bool false) w := by
  first
  | rfl
  | kernel_rfl
theorem told_each (b : ByteArray) (w W : World) (hC : Cols w) (hM : MaxLenAt w) (hb : b.size < 4294967281)
    (hg1 : 0 < w.heap.size) (hg2 : 4 < w.heap.size)
    (hW : W = (((((w.alloc (.cells #[.int .i64 (-1)] 3)).alloc (.cells #[.slice none 0 0, .slice none 0 0] 25)).alloc (.cells #[.slice none 0 0, .slice none 0 0] 25)).alloc (.cells #[.string b] 9)).alloc (.cells #[.bool false] 4)).alloc (.cells #[.bool false] 4)) :
    Below w.heap.size w W ∧ W.heap.size = w.heap.size + 1 + 1 + 1 + 1 + 1 + 1 ∧ W.heap[w.heap.size + 1]? = some (.cells #[.slice none 0 0, .slice none 0 0] 25 (0, 0)) ∧
    Calls Tryz.prog 47 #[.func (.func 27) #[] #[.pointer (some ⟨w.heap.size + 1 + 1 + 1 + 1, 0, none⟩), .pointer (some ⟨w.heap.size + 1 + 1 + 1 + 1 + 1, 0, none⟩), .pointer (some ⟨w.heap.size + 1 + 1, 0, none⟩), .pointer (some ⟨w.heap.size, 0, none⟩)], .pointer (some ⟨w.heap.size + 1 + 1 + 1, 0, none⟩)] W fun e w' => (∃ v, e = .returned v) ∧ (∃ ats mem, EAns b ats mem ∧ TL (w.heap.size + 2) (w.heap.size + 1 + 1) (w.heap.size + 1 + 1 + 1 + 1) (w.heap.size + 1 + 1 + 1 + 1 + 1) w.heap.size ats mem w') ∧ Below (w.heap.size + 2) W w' := by
  have h0 := heap_alloc_new w (.cells #[.int .i64 (-1)] 3)
  have z1 : (w.alloc (.cells #[.int .i64 (-1)] 3)).heap.size = w.heap.size + 1 := World.size_alloc ..
  generalize hw1 : w.alloc (.cells #[.int .i64 (-1)] 3) = w1 at *
  have b1 : Below w.heap.size w w1 := by rw [← hw1]; exact bup (Below.refl _ _) _
  have h1 := heap_alloc_new w1 (.cells #[.slice none 0 0, .slice none 0 0] 25)
  have z2 : (w1.alloc (.cells #[.slice none 0 0, .slice none 0 0] 25)).heap.size = w1.heap.size + 1 := World.size_alloc ..
  have b2 : Below w1.heap.size w1 (w1.alloc (.cells #[.slice none 0 0, .slice none 0 0] 25)) := bup (Below.refl _ _) _
  generalize hw2 : w1.alloc (.cells #[.slice none 0 0, .slice none 0 0] 25) = w2 at *
  have h2 := heap_alloc_new w2 (.cells #[.slice none 0 0, .slice none 0 0] 25)
  have z3 : (w2.alloc (.cells #[.slice none 0 0, .slice none 0 0] 25)).heap.size = w2.heap.size + 1 := World.size_alloc ..
  have b3 : Below w2.heap.size w2 (w2.alloc (.cells #[.slice none 0 0, .slice none 0 0] 25)) := bup (Below.refl _ _) _
  generalize hw3 : w2.alloc (.cells #[.slice none 0 0, .slice none 0 0] 25) = w3 at *
  have h3 := heap_alloc_new w3 (.cells #[.string b] 9)
  have z4 : (w3.alloc (.cells #[.string b] 9)).heap.size = w3.heap.size + 1 := World.size_alloc ..
  have b4 : Below w3.heap.size w3 (w3.alloc (.cells #[.string b] 9)) := bup (Below.refl _ _) _
  generalize hw4 : w3.alloc (.cells #[.string b] 9) = w4 at *
  have h4 := heap_alloc_new w4 (.cells #[.bool false] 4)
  have z5 : (w4.alloc (.cells #[.bool false] 4)).heap.size = w4.heap.size + 1 := World.size_alloc ..
  have b5 : Below w4.heap.size w4 (w4.alloc (.cells #[.bool false] 4)) := bup (Below.refl _ _) _
  generalize hw5 : w4.alloc (.cells #[.bool false] 4) = w5 at *
  have h5 := heap_alloc_new w5 (.cells #[.bool false] 4)
  have z6 : (w5.alloc (.cells #[.bool false] 4)).heap.size = w5.heap.size + 1 := World.size_alloc ..
  have b6 : Below w5.heap.size w5 (w5.alloc (.cells #[.bool false] 4)) := bup (Below.refl _ _) _
  rw [← hW] at h5 z6 b6
  have e1 : w1.heap.size = w.heap.size + 1 := z1
  have e2 : w2.heap.size = w.heap.size + 1 + 1 := by omega
  have e3 : w3.heap.size = w.heap.size + 1 + 1 + 1 := by omega
  have e4 : w4.heap.size = w.heap.size + 1 + 1 + 1 + 1 := by omega
  have e5 : w5.heap.size = w.heap.size + 1 + 1 + 1 + 1 + 1 := by omega
  have e6 : W.heap.size = w.heap.size + 1 + 1 + 1 + 1 + 1 + 1 := by omega
  rw [e1] at h1; rw [e2] at h2; rw [e3] at h3; rw [e4] at h4; rw [e5] at h5
  have k5 : Below w5.heap.size w5 W := b6
  have k4 : Below w4.heap.size w4 W := bel3 b5 k5
  have k3 : Below w3.heap.size w3 W := bel3 b4 k4
  have k2 : Below w2.heap.size w2 W := bel3 b3 k3
  have k1 : Below w1.heap.size w1 W := bel3 b2 k2
  have k0 : Below w.heap.size w W := bel3 b1 k1
  have H0 := hkeep k1 h0
  have H1 := hkeep k2 h1
  have H2 := hkeep k3 h2
  have H3 := hkeep k4 h3
  have H4 := hkeep k5 h4
  refine ⟨k0, e6, H1, ?_⟩
  exact each1_c (w.heap.size + 2) (w.heap.size + 1 + 1 + 1) (w.heap.size + 1 + 1) (w.heap.size + 1 + 1 + 1 + 1) (w.heap.size + 1 + 1 + 1 + 1 + 1) w.heap.size b W hb (hC.on k0) (hM.on k0) (by omega) (by omega) (by omega) H3 (by omega)
    ⟨⟨none, 0, 0, none, 0, 0, H2, own_nil _ _ _ _, own_nil _ _ _ _, fun g' h => by cases h⟩, H4, h5, H0⟩ (by omega) (by omega) (by omega) (by omega)
theorem results_ct {P : Program} {fn : Func} {p u : Tmp} {ty : TypeId} (h : fn.results = #[.cell p ty, .tmp u]) (tmps : Array Value) (w : World) (g : Nat) (t : TypeId) (cs : Array Value) (fr : Nat × Nat) (d : TypeDesc) (x : Value)
    (hp : tmps.getD p undef = .pointer (some ⟨g, 0, none⟩)) (hx : tmps.getD u undef = x) (hg : w.heap[g]? = some (.cells cs t fr))
    (hu : P.underlying ty = some d) (hd : (match d with | .struct _ | .array _ _ => true | _ => false) = true) (hi : (P.info? ty).map (·.size) = some cs.size) :
    (results fn tmps).run P w = .ok (.tuple #[.agg cs, x]) w := by
  have hp' : tmps[p]?.getD undef = .pointer (some ⟨g, 0, none⟩) := by simpa using hp
  have hx' : tmps[u]?.getD undef = x := by simpa using hx
  simp only [results, h]
  simp [Result.andThen, hp', hx', asAddr, run_loadVar_row w g t ty cs fr d hg hu hd hi]
theorem set2 {w : World} {k : Nat} {t : TypeId} {x0 x1 : Value} (v0 v1 : Value) (h : w.heap[k]? = some (.cells #[x0, x1] t (0, 0))) :
    (((w.setCell ⟨k, 0, none⟩ v0).setCell ⟨k, 1, none⟩ v1).drew).heap[k]? = some (.cells #[v0, v1] t (0, 0)) ∧ Kq k w (((w.setCell ⟨k, 0, none⟩ v0).setCell ⟨k, 1, none⟩ v1).drew) := by
  refine ⟨?_, (((Kq.refl k w).set 0 v0).set 1 v1).drew⟩
  have H := (set_row (i := 1) v1 (set_row (i := 0) v0 h))
  simp only [List.setIfInBounds_toArray, List.set_cons_succ, List.set_cons_zero] at H
  exact H
def ToldPost (b : ByteArray) (w : World) (e : Ending) (w' : World) : Prop := ∃ (aa : Option Addr) (la ca : Nat) (am : Option Addr) (lm cm : Nat) (ats : List Int) (mem : List Mb), e = .returned (.tuple #[.agg #[.slice aa la ca, .slice am lm cm], .bool true]) ∧ w'.ownsRow w.heap.size 3 1 (.slice aa la ca) ats.length (atsV ats) ∧ w'.ownsRow w.heap.size 54 7 (.slice am lm cm) mem.length (mbsV mem) ∧ Below w.heap.size w w' ∧ EAns b ats mem
set_option maxHeartbeats 2000000 in
theorem told_w (b : ByteArray) (w W : World)
    (hW : W = (((((w.alloc (.cells #[.int .i64 (-1)] 3)).alloc (.cells #[.slice none 0 0, .slice none 0 0] 25)).alloc (.cells #[.slice none 0 0, .slice none 0 0] 25)).alloc (.cells #[.string b] 9)).alloc (.cells #[.bool false] 4)).alloc (.cells #[.bool false] 4))
    (hB0 : Below w.heap.size w W) (hR : W.heap[w.heap.size + 1]? = some (.cells #[.slice none 0 0, .slice none 0 0] 25 (0, 0))) (hz : w.heap.size + 1 < W.heap.size)
    (HT : Hid (Calls Tryz.prog 47 #[.func (.func 27) #[] #[.pointer (some ⟨w.heap.size + 1 + 1 + 1 + 1, 0, none⟩), .pointer (some ⟨w.heap.size + 1 + 1 + 1 + 1 + 1, 0, none⟩), .pointer (some ⟨w.heap.size + 1 + 1, 0, none⟩), .pointer (some ⟨w.heap.size, 0, none⟩)], .pointer (some ⟨w.heap.size + 1 + 1 + 1, 0, none⟩)] W fun e w' => (∃ v, e = .returned v) ∧ (∃ ats mem, EAns b ats mem ∧ TL (w.heap.size + 2) (w.heap.size + 1 + 1) (w.heap.size + 1 + 1 + 1 + 1) (w.heap.size + 1 + 1 + 1 + 1 + 1) w.heap.size ats mem w') ∧ Below (w.heap.size + 2) W w')) :
    Calls Tryz.prog 9 #[.string b, .int .i64 (-1)] w fun e w' => ToldPost b w e w' := by
  have HE : Hid (∀ w, Calls Tryz.prog 26 #[.string b] w fun e w' => e = .returned (.func (.func 47) #[] #[.pointer (some ⟨w.heap.size, 0, none⟩)]) ∧ w' = w.alloc (.cells #[.string b] 9)) := each_c b
  have nc := nilcmp
  have HW := hidT hW
  have HB := hidT (And.intro hB0 (And.intro hR hz))
  clear hW hB0 hR hz
  go_enter Tryz.func9, Tryz.ntmps9
  go_wp2_with (first
    | (go_at_call 26; refine (HE.out _).mono ?_; rintro r w1 ⟨rfl, hw⟩; subst w1)
    | (go_at_call 47; rw [← HW.out]; refine HT.out.mono ?_; rintro e w2 ⟨⟨v, rfl⟩, ⟨ats, mem, hE, ⟨aa, la, ca, am, lm, cm, hL, hA, hM, hak⟩, hs, hbt, hk⟩, hB2⟩; obtain ⟨hB0, hR, hz⟩ := HB.out; have jR := (hB2.block _ (by omega)).trans hR; obtain ⟨l0, l1⟩ := cells2 hL; have ct := cell_row hbt 0 _ rfl))
  have c0 := cell_row jR 0 _ rfl
  have c1 := cell_row jR 1 _ rfl
  have f0 := froz_row jR 0
  have f1 := froz_row jR 1
  have HA := hidT (And.intro hE (And.intro hA (And.intro hM (And.intro hB2 (And.intro jR hB0)))))
  obtain ⟨R, hRe⟩ : ∃ R, R = w.heap.size + 1 := ⟨_, rfl⟩
  obtain ⟨BL, hLe⟩ : ∃ R, R = w.heap.size + 1 + 1 := ⟨_, rfl⟩
  obtain ⟨Bt, hTe⟩ : ∃ R, R = w.heap.size + 1 + 1 + 1 + 1 + 1 := ⟨_, rfl⟩
  simp only [← hRe] at c0 c1 f0 f1 l0 l1 ct ⊢
  have n1 : ¬ R = BL := by omega
  have n2 : ¬ R = Bt := by omega
  have n3 : ¬ BL = R := by omega
  have n4 : ¬ Bt = R := by omega
  have HRE := hidT (And.intro hRe (And.intro hLe hTe))
  clear hE hA hM hB2 jR hB0 hR hz hL hs hbt hk hak hRe hLe hTe HE HT HW HB nc
  go_region
  obtain ⟨hE, hA, hM, hB2, jR, hB0⟩ := HA.out
  obtain ⟨hRe, hLe, hTe⟩ := HRE.out
  rw [← hRe] at jR
  obtain ⟨hg, hq⟩ := set2 (.slice aa la ca) (.slice am lm cm) jR
  go_wp2
  refine bodyPost_ret (results_ct rfl _ _ R _ _ _ _ _ rfl rfl hg Tryz.underlying25 rfl (by kernel_rfl)) rfl ?_
  have hB3 : Below w.heap.size w w2 := hB0.trans (hB2.mono (by omega))
  exact ⟨aa, la, ca, am, lm, cm, ats, mem, rfl, own_base (own_kq hA hq jR (by decide)) (by omega), own_base (own_kq hM hq jR (by decide)) (by omega), hB3.trans (hq.below (by omega) hB3.size), hE⟩
theorem told_c (b : ByteArray) (w : World) (hC : Cols w) (hM : MaxLenAt w) (hb : b.size < 4294967281)
    (hg1 : 0 < w.heap.size) (hg2 : 4 < w.heap.size) :
    Calls Tryz.prog 9 #[.string b, .int .i64 (-1)] w fun e w' => ToldPost b w e w' := by
  obtain ⟨W, hW⟩ : ∃ W, W = (((((w.alloc (.cells #[.int .i64 (-1)] 3)).alloc (.cells #[.slice none 0 0, .slice none 0 0] 25)).alloc (.cells #[.slice none 0 0, .slice none 0 0] 25)).alloc (.cells #[.string b] 9)).alloc (.cells #[.bool false] 4)).alloc (.cells #[.bool false] 4) := ⟨_, rfl⟩
  obtain ⟨h1, h2, h3, h4⟩ := told_each b w W hC hM hb hg1 hg2 hW
  exact told_w b w W hW h1 h3 (by omega) h4
end Go.Proofs.YtnfplepaejjmfaaGreatDoor

-- ArcEach's walk.
namespace Go.Proofs.YtnfplepaejjmfaaGreatDoor
open Go.ChangeShapes Go.WideShapes Go.ChangeAt Go.RowKit Go.Shelf
set_option linter.unusedVariables false
set_option maxRecDepth 100000
set_option maxHeartbeats 2000000 in
theorem arcEach_w (a0 : ByteArray) (l0 : a0.size ≤ 1048576) (w : World) (hC : Cols w) (hX : MaxLenAt w) :
    Calls Tryz.prog 3 #[.string a0] w fun e w' => e = .returned (.bool true) ∧ Below w.heap.size w w' := by
  have H1 : Hid (Calls Tryz.prog 9 #[.string a0, .int .i64 (-1)] w fun e w' => ToldPost a0 w e w') := told_c a0 w hC hX (by omega) hC.lt (by obtain ⟨m, hm⟩ := hX; have := block_lt_of_cell hm; dsimp only at this; omega)
  have H2 := hidT (fun w => rtold_c a0 w (by omega))
  have HL := hidT l0
  clear l0 hX hC
  go_enter Tryz.func3, Tryz.ntmps3
  go_wp2_with (first
    | (go_at_call 9; refine H1.out.mono ?_; rintro e w1 ⟨aa, la, ca, am, lm, cm, ats, mem, rfl, hA, hM, hb1, hE⟩; have HE := hidT hE; have HLN := hidT hE.len; have hbA := bup hb1 (.cells #[.slice aa la ca, .slice am lm cm] 25); have jb := heap_alloc_new w1 (.cells #[.slice aa la ca, .slice am lm cm] 25); have HA := hidT (And.intro (own_up hA (.cells #[.slice aa la ca, .slice am lm cm] 25)) (own_up hM (.cells #[.slice aa la ca, .slice am lm cm] 25))); clear hE hA hM)
    | (go_at_call 10; refine (H2.out _).mono ?_; rintro e w2 ⟨am', lm', cm', aa', la', ca', ats', mem', rfl, hA, hM, hb2, hE⟩; obtain ⟨rfl, rfl⟩ := HE.out.unique hE; have hbB := hbA.trans (hb2.mono hbA.size); have HB := hidT (And.intro hA hM); have HA2 := hidT (And.intro (own_on HA.out.1 hb2) (own_on HA.out.2 hb2)); obtain ⟨t0, t1⟩ := cells2 (hkeep hb2 jb); clear hE hA hM)
    | (go_at_call 11; refine (places_eq _ _ ats _ (.of_own HA2.out.1) (.of_own HB.out.1) (by have := HLN.out; have := HL.out; omega)).mono ?_; rintro e w3 ⟨rfl, m1, hw3⟩; subst w3; have t2 := hkeep (below_drewT (Below.refl _ w2) m1) (hkeep hb2 jb); have hbC := below_drewT hbB m1; obtain ⟨t3, t4⟩ := cells2 t2)
    | (go_at_call 12; refine (members_eq _ _ mem _ (.of_own (own_on HA2.out.2 (below_drewT (Below.refl _ w2) m1))) (.of_own (own_on HB.out.2 (below_drewT (Below.refl _ w2) m1))) (by have := HLN.out; have := HL.out; omega)).mono ?_; rintro e w3 ⟨rfl, m2, hw3⟩; subst w3; have hbD := below_drewT hbC m2))
  all_goals
    go_ret
    exact ⟨by simp, below_drewT hbB _⟩
end Go.Proofs.YtnfplepaejjmfaaGreatDoor
