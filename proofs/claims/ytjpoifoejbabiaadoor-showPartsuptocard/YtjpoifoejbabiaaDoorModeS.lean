
import Derived.Test.YtjpoifoejbabiaaDoorModeW
import Derived.Deep.RegionHeld3
import Derived.Laws.AppendOwn
import Derived.OwnWalk
import Derived.Lib.Builder
import Derived.Lib.UnsafeStr
import Derived.Laws.IdiomStrings
import Derived.Laws.BytesArg
namespace Go.Proofs.YtjpoifoejbabiaaDoor
open Go.RowKit
set_option linter.unusedVariables false
set_option maxRecDepth 100000
theorem step_append_own {P : Program} {ops : Array Oper} {o : Oper} {a : Act} {w : World} {K : Act → World → Prop} {Q : Exit → Act → World → Prop} {E : Prop}
    (hg : o.guard = none) (s x : Operand) (t : TypeId) (hop : o.op = Op.call { callee := Callee.builtin Builtin.append, args := #[s, x], argTypes := #[t, t] })
    (base : Nat) (e : TypeId) (i : TypeInfo) (z : Value) (size bytes : Nat) (h1 : P.underlying t = some (.slice e)) (h2 : P.info? e = some i) (h3 : i.zero = some z) (h4 : i.size = size) (h5 : i.bytes = bytes) (h6 : z.cells.size = size) (h7 : 0 < size)
    (v : Value) (n : Nat) (xs : List Value) (hs : a.eval s = v) (hown : w.ownsRow base e size v n xs)
    (ad : Addr) (m c : Nat) (news : List Value) (hx : a.eval x = .slice (some ad) m c) (hn : news.length = m * size) (hc : ∀ j u, news[j]? = some u → w.cell? (ad.add j) = some u) (h1c : ∀ u ∈ news, u.oneCell' = true)
    (b1 : n + m ≤ maxLen) (b2 : (n + m) * bytes ≤ 140737488355328) (hB : base ≤ w.heap.size)
    (hK : ∀ v' w', w'.ownsRow base e size v' (n + m) (xs ++ news) → w.grownBy w' v.ownBlock → K (a.put o.dst v') w') :
    if Region.wanted o (yielded ops a.tmps) = true then Oper.wp P o a w K Q else E := by
  have hw : Region.wanted o (yielded ops a.tmps) = true := by simp [Region.wanted, hg]
  rw [if_pos hw]
  obtain ⟨v', w', hrun, r1, r2, _⟩ := run_append_own (P := P) w base t o.type e i z size bytes h1 h2 h3 h4 h5 h6 h7 v n xs hown ad m c news hn hc h1c b1 b2 hB
  unfold Oper.wp
  simp [execOp, hop, resolve, invoke, builtin, hs, hx, hrun, Result.andThen]
  exact hK v' w' r1 r2
theorem three_new {n : Nat} (w : World) (x y z : Value) (t : TypeId) (hn : w.heap.size = n) : ∀ j u, [x, y, z][j]? = some u → (w.alloc (.cells #[x, y, z] t)).cell? ((⟨n, 0, none⟩ : Addr).add j) = some u := by
  intro j u hj
  subst hn
  match j, hj with
  | 0, hj => simp at hj; subst hj; simp [Addr.add]
  | 1, hj => simp at hj; subst hj; simp [Addr.add]
  | 2, hj => simp at hj; subst hj; simp [Addr.add]
theorem three_one (x y z : Int) : ∀ u ∈ [Value.int .u8 x, .int .u8 y, .int .u8 z], u.oneCell' = true := by
  intro u hu; simp at hu; rcases hu with rfl | rfl | rfl <;> rfl
theorem keep5 {wr w2 : World} {c : Array Value} {T : TypeId} {o : Obj} {row : Option Nat} (hb : ∀ k, k < ((wr.alloc (.cells c T)).alloc o).heap.size → some k ≠ row → w2.heap[k]? = ((wr.alloc (.cells c T)).alloc o).heap[k]?)
    (hr : ∀ k, row = some k → k < wr.heap.size) (i : Nat) : w2.cell? ⟨wr.heap.size, i, none⟩ = c[i]? := by
  have h := hb wr.heap.size (by simp; omega) (fun e => by have := hr _ e.symm; omega)
  rw [Lib.alloc_old _ o wr.heap.size (by simp), heap_alloc_new] at h
  exact Lib.cell_of_heap h i
def bt (m k : Int) : Bool := bits .and .i64 m k != 0
def lets (m : Int) : Nat → List Int
  | 0 => []
  | 1 => [lif (bt m 256) 114, lif (bt m 128) 119, exl (bt m 64) (bt m 2048) 115]
  | 2 => [lif (bt m 256) 114, lif (bt m 128) 119, exl (bt m 64) (bt m 2048) 115, lif (bt m 32) 114, lif (bt m 16) 119, exl (bt m 8) (bt m 1024) 115]
  | _ => [lif (bt m 256) 114, lif (bt m 128) 119, exl (bt m 64) (bt m 2048) 115, lif (bt m 32) 114, lif (bt m 16) 119, exl (bt m 8) (bt m 1024) 115, lif (bt m 4) 114, lif (bt m 2) 119, exl (bt m 1) (bt m 512) 116]
def cellsM : Array Value := #[.int .i64 256, .int .i64 128, .int .i64 64, .int .i64 2048, .int .u8 115, .int .i64 32, .int .i64 16, .int .i64 8, .int .i64 1024, .int .u8 115, .int .i64 4, .int .i64 2, .int .i64 1, .int .i64 512, .int .u8 116]
theorem lif_byte (b : Bool) (c : Int) (h0 : 0 ≤ c) (h1 : c < 256) : 0 ≤ lif b c ∧ lif b c < 256 := by unfold lif; split <;> omega
theorem exl_byte (x o : Bool) (c : Int) (h0 : 32 ≤ c) (h1 : c < 256) : 0 ≤ exl x o c ∧ exl x o c < 256 := by unfold exl; split <;> split <;> omega
theorem lets_byte (m : Int) : ∀ x ∈ lets m 3, 0 ≤ x ∧ x < 256 := by
  intro x hx
  simp only [lets, List.mem_cons, List.not_mem_nil, or_false] at hx
  rcases hx with rfl | rfl | rfl | rfl | rfl | rfl | rfl | rfl | rfl
  all_goals first | exact lif_byte _ _ (by decide) (by decide) | exact exl_byte _ _ _ (by decide) (by decide)
theorem bytes_of (l : List Int) (h : ∀ x ∈ l, 0 ≤ x ∧ x < 256) : Lib.byteCells (l.map fun x => x.toNat.toUInt8) = l.map (Value.int .u8) := by
  simp only [Lib.byteCells, List.map_map]
  apply List.map_congr_left
  intro x hx
  obtain ⟨h0, h1⟩ := h x hx
  simp [Function.comp]
  omega
theorem lets_cells (m : Int) : Lib.byteCells ((lets m 3).map fun x => x.toNat.toUInt8) = (lets m 3).map (Value.int .u8) := bytes_of _ (lets_byte m)
theorem conv_m (w : World) (base : Nat) (v : Value) (l : List UInt8) (h : w.ownsRow base 5 1 v l.length (Lib.byteCells l)) :
    (convert 37 9 v).run Tryd.prog w = .ok (.string ⟨l.toArray⟩) w := by
  rcases h.2 with ⟨rfl, h0⟩ | ⟨g, cap, cur, rfl, _⟩
  · have : l = [] := List.eq_nil_of_length_eq_zero h0
    subst this
    exact run_convert_bytes_nil w 37 5 Tryd.underlying37 Tryd.underlying5 0 0 9 Tryd.underlying9
  · refine run_convert_bytes_back w 37 9 5 ⟨g, 0, none⟩ cap l Tryd.underlying37 Tryd.underlying5 Tryd.underlying9 (fun j hj => ?_)
    exact h.cells (g := g) rfl j _ (by simp [Lib.byteCells, hj])
theorem info5m : (Tryd.prog.info? 5).map (fun i => (i.zero, i.size, i.bytes)) = some (some (.int .u8 0), 1, 1) := by kernel_rfl
/-- The table of the groups, where it is laid. -/
def ModeTab (w : World) : Prop := ∃ t fr, w.heap[0]? = some (.cells cellsM t fr)
theorem mk9 (w : World) : (Instr.makeSlice 37 (.int .i64 0) (.int .i64 9)).run Tryd.prog w = .ok (.slice (some ⟨w.heap.size, 0, none⟩) 0 9) (w.alloc (.cells #[.int .u8 0, .int .u8 0, .int .u8 0, .int .u8 0, .int .u8 0, .int .u8 0, .int .u8 0, .int .u8 0, .int .u8 0] 5)) := by kernel_rfl
theorem ix0 (w : World) : (Instr.index 52 (.agg cellsM) (.int .i64 0)).run Tryd.prog w = .ok (.agg #[.int .i64 256, .int .i64 128, .int .i64 64, .int .i64 2048, .int .u8 115]) w := by kernel_rfl
theorem ix1 (w : World) : (Instr.index 52 (.agg cellsM) (.int .i64 1)).run Tryd.prog w = .ok (.agg #[.int .i64 32, .int .i64 16, .int .i64 8, .int .i64 1024, .int .u8 115]) w := by kernel_rfl
theorem ix2 (w : World) : (Instr.index 52 (.agg cellsM) (.int .i64 2)).run Tryd.prog w = .ok (.agg #[.int .i64 4, .int .i64 2, .int .i64 1, .int .i64 512, .int .u8 116]) w := by kernel_rfl
set_option maxHeartbeats 1000000 in
theorem modeString_c (m : Int) (w : World) (hT : ModeTab w) :
    Calls Tryd.prog 12 #[.int .i64 m] w fun e w' => e = .returned (.string ⟨((lets m 3).map fun x => x.toNat.toUInt8).toArray⟩) ∧ Below w.heap.size w w' := by
  obtain ⟨t0, fr, hg⟩ := hT
  obtain ⟨i0, hi, hz0, hz1, hz2⟩ := info_parts info5m
  have h9 := mk9
  have h0lt : 0 < w.heap.size := (Array.getElem?_eq_some_iff.1 hg).1
  have hg2 : ∀ o, (w.alloc o).heap[0]? = some (.cells cellsM t0 fr) := fun o => by rw [← hg]; exact Lib.alloc_old w o 0 h0lt
  obtain ⟨CM, hCM⟩ : ∃ CM, CM = cellsM := ⟨_, rfl⟩
  have x0 := ix0
  have x1 := ix1
  have x2 := ix2
  have hsz : (Tryd.prog.info? 52).map (·.size) = some CM.size := by rw [hCM]; kernel_rfl
  rw [← hCM] at hg2 x0 x1 x2
  clear hg hCM
  go_enter Tryd.func12, Tryd.ntmps12
  go_wp2_with (refine wpList_load_row rfl 52 _ rfl 0 rfl t0 CM fr _ (hg2 _) Tryd.underlying52 rfl hsz ?_)
  go_loopw [3, 8] (fun v i wx => ∃ k : Nat, i = .int .i64 k ∧ k ≤ 3 ∧ wx.ownsRow w.heap.size 5 1 v (3 * k) ((lets m k).map (Value.int .u8)) ∧ Below w.heap.size w wx) (fun _ i _ => 3 - (intOf i).toNat)
  case atStart => exact ⟨0, rfl, by omega, World.ownsRow_made w _ 9 (Nat.le_refl _) (by decide) rfl, (Below.refl _ _).alloc (Nat.le_refl _) _⟩
  case round =>
    obtain ⟨k, rfl, hk3, hown, hbw⟩ := hrel
    have hbs := hbw.size
    have hc : k = 0 ∨ k = 1 ∨ k = 2 ∨ k = 3 := by omega
    clear hk3 hg2
    rcases hc with rfl | rfl | rfl | rfl
    · have HR : Hid (∀ w, Calls Tryd.prog 23 #[.bool (bt m 256), .int .u8 114] w fun e w' => e = .returned (.int .u8 (lif (bt m 256) 114)) ∧ w' = w) := fun w => letterIf_c _ _ w
      have HWW : Hid (∀ w, Calls Tryd.prog 23 #[.bool (bt m 128), .int .u8 119] w fun e w' => e = .returned (.int .u8 (lif (bt m 128) 119)) ∧ w' = w) := fun w => letterIf_c _ _ w
      have HX : Hid (∀ w, Calls Tryd.prog 24 #[.bool (bt m 64), .bool (bt m 2048), .int .u8 115] w fun e w' => e = .returned (.int .u8 (exl (bt m 64) (bt m 2048) 115)) ∧ w' = w) := fun w => executeLetter_c _ _ _ (by decide) (by decide) w
      have e1 : (bits .and .i64 m 256 != 0) = bt m 256 := rfl
      have e2 : (bits .and .i64 m 128 != 0) = bt m 128 := rfl
      have e3 : (bits .and .i64 m 64 != 0) = bt m 64 := rfl
      have e4 : (bits .and .i64 m 2048 != 0) = bt m 2048 := rfl
      obtain ⟨p1, hp1⟩ : ∃ p, p = lif (bt m 256) 114 := ⟨_, rfl⟩
      obtain ⟨p2, hp2⟩ : ∃ p, p = lif (bt m 128) 119 := ⟨_, rfl⟩
      obtain ⟨p3, hp3⟩ : ∃ p, p = exl (bt m 64) (bt m 2048) 115 := ⟨_, rfl⟩
      have HLL : Hid (lets m 1 = lets m 0 ++ [p1, p2, p3]) := by show _ = _; rw [hp1, hp2, hp3]; rfl
      rw [← hp1] at HR
      rw [← hp2] at HWW
      rw [← hp3] at HX
      obtain ⟨q1, hq1⟩ : ∃ q, q = bt m 256 := ⟨_, rfl⟩
      obtain ⟨q2, hq2⟩ : ∃ q, q = bt m 128 := ⟨_, rfl⟩
      obtain ⟨q3, hq3⟩ : ∃ q, q = bt m 64 := ⟨_, rfl⟩
      obtain ⟨q4, hq4⟩ : ∃ q, q = bt m 2048 := ⟨_, rfl⟩
      rw [← hq1] at HR e1
      rw [← hq2] at HWW e2
      rw [← hq3, ← hq4] at HX
      rw [← hq3] at e3
      rw [← hq4] at e4
      clear hp1 hp2 hp3 hq1 hq2 hq3 hq4
      have hsz1 : ∀ o, (wr.alloc o).heap.size = wr.heap.size + 1 := fun o => by simp
      have hrow : ∀ k, u3.ownBlock = some k → k < wr.heap.size := fun k hk => (hown.lt k hk).2
      have hB2 : ∀ o o', w.heap.size ≤ ((wr.alloc o).alloc o').heap.size := fun o o' => by simp; omega
      go_wp2
      go_region_held3 (fun w' => w'.cell? ⟨wr.heap.size, 0, none⟩ = some (.int .i64 256) ∧ w'.cell? ⟨wr.heap.size, 1, none⟩ = some (.int .i64 128) ∧ w'.cell? ⟨wr.heap.size, 2, none⟩ = some (.int .i64 64) ∧ w'.cell? ⟨wr.heap.size, 3, none⟩ = some (.int .i64 2048) ∧ w'.cell? ⟨wr.heap.size, 4, none⟩ = some (.int .u8 115)) (first | go_keep | exact ⟨k0, k1, k2, k3, k4⟩) (first
        | (go_at_call 24; refine (HX.out _).mono ?_; rintro e w' ⟨rfl, rfl⟩)
        | (go_at_call_of 23 (Value.int IntKind.u8 114); refine (HR.out _).mono ?_; rintro e w' ⟨rfl, rfl⟩)
        | (go_at_call 23; refine (HWW.out _).mono ?_; rintro e w' ⟨rfl, rfl⟩)
        | (refine step_append_own rfl (.tmp 11) (.tmp 37) 37 rfl w.heap.size 5 i0 (.int .u8 0) 1 1 Tryd.underlying37 hi hz0 hz1 hz2 rfl Nat.zero_lt_one _ 0 _ rfl ((hown.alloc _).alloc _) ⟨wr.heap.size + 1, 0, none⟩ 3 3 [.int .u8 p1, .int .u8 p2, .int .u8 p3] rfl rfl (three_new _ _ _ _ _ (hsz1 _)) (three_one _ _ _) (Nat.le_of_ble_eq_true rfl) (Nat.le_of_ble_eq_true rfl) (hB2 _ _) ?_; intro v' w2 hown' hgrow; have k0 := keep5 hgrow.block hrow 0; have k1 := keep5 hgrow.block hrow 1; have k2 := keep5 hgrow.block hrow 2; have k3 := keep5 hgrow.block hrow 3; have k4 := keep5 hgrow.block hrow 4))
      clear k0 k1 k2 k3 k4 HR HWW HX e1 e2 e3 e4
      have hb2 : Below w.heap.size w w2 := ((hbw.alloc hbs _).alloc (by rw [hsz1]; omega) _).grown (row := u3.ownBlock) ⟨hgrow.os, hgrow.tape, hgrow.output, hgrow.size, hgrow.block⟩ (hB2 _ _) (fun k hk => (hown.lt k hk).1)
      have ho2 : w2.ownsRow w.heap.size 5 1 v' (3 * 1) ((lets m 1).map (Value.int .u8)) := by rw [HLL.out, List.map_append]; exact hown'
      clear hgrow hown' hown
      go_wp2
      go_roundw
      case rel => exact ⟨1, rfl, by omega, ho2, hb2⟩
      case measure => simp [intOf]
    · have HR : Hid (∀ w, Calls Tryd.prog 23 #[.bool (bt m 32), .int .u8 114] w fun e w' => e = .returned (.int .u8 (lif (bt m 32) 114)) ∧ w' = w) := fun w => letterIf_c _ _ w
      have HWW : Hid (∀ w, Calls Tryd.prog 23 #[.bool (bt m 16), .int .u8 119] w fun e w' => e = .returned (.int .u8 (lif (bt m 16) 119)) ∧ w' = w) := fun w => letterIf_c _ _ w
      have HX : Hid (∀ w, Calls Tryd.prog 24 #[.bool (bt m 8), .bool (bt m 1024), .int .u8 115] w fun e w' => e = .returned (.int .u8 (exl (bt m 8) (bt m 1024) 115)) ∧ w' = w) := fun w => executeLetter_c _ _ _ (by decide) (by decide) w
      have e1 : (bits .and .i64 m 32 != 0) = bt m 32 := rfl
      have e2 : (bits .and .i64 m 16 != 0) = bt m 16 := rfl
      have e3 : (bits .and .i64 m 8 != 0) = bt m 8 := rfl
      have e4 : (bits .and .i64 m 1024 != 0) = bt m 1024 := rfl
      obtain ⟨p1, hp1⟩ : ∃ p, p = lif (bt m 32) 114 := ⟨_, rfl⟩
      obtain ⟨p2, hp2⟩ : ∃ p, p = lif (bt m 16) 119 := ⟨_, rfl⟩
      obtain ⟨p3, hp3⟩ : ∃ p, p = exl (bt m 8) (bt m 1024) 115 := ⟨_, rfl⟩
      have HLL : Hid (lets m 2 = lets m 1 ++ [p1, p2, p3]) := by show _ = _; rw [hp1, hp2, hp3]; rfl
      rw [← hp1] at HR
      rw [← hp2] at HWW
      rw [← hp3] at HX
      obtain ⟨q1, hq1⟩ : ∃ q, q = bt m 32 := ⟨_, rfl⟩
      obtain ⟨q2, hq2⟩ : ∃ q, q = bt m 16 := ⟨_, rfl⟩
      obtain ⟨q3, hq3⟩ : ∃ q, q = bt m 8 := ⟨_, rfl⟩
      obtain ⟨q4, hq4⟩ : ∃ q, q = bt m 1024 := ⟨_, rfl⟩
      rw [← hq1] at HR e1
      rw [← hq2] at HWW e2
      rw [← hq3, ← hq4] at HX
      rw [← hq3] at e3
      rw [← hq4] at e4
      clear hp1 hp2 hp3 hq1 hq2 hq3 hq4
      have hsz1 : ∀ o, (wr.alloc o).heap.size = wr.heap.size + 1 := fun o => by simp
      have hrow : ∀ k, u3.ownBlock = some k → k < wr.heap.size := fun k hk => (hown.lt k hk).2
      have hB2 : ∀ o o', w.heap.size ≤ ((wr.alloc o).alloc o').heap.size := fun o o' => by simp; omega
      go_wp2
      go_region_held3 (fun w' => w'.cell? ⟨wr.heap.size, 0, none⟩ = some (.int .i64 32) ∧ w'.cell? ⟨wr.heap.size, 1, none⟩ = some (.int .i64 16) ∧ w'.cell? ⟨wr.heap.size, 2, none⟩ = some (.int .i64 8) ∧ w'.cell? ⟨wr.heap.size, 3, none⟩ = some (.int .i64 1024) ∧ w'.cell? ⟨wr.heap.size, 4, none⟩ = some (.int .u8 115)) (first | go_keep | exact ⟨k0, k1, k2, k3, k4⟩) (first
        | (go_at_call 24; refine (HX.out _).mono ?_; rintro e w' ⟨rfl, rfl⟩)
        | (go_at_call_of 23 (Value.int IntKind.u8 114); refine (HR.out _).mono ?_; rintro e w' ⟨rfl, rfl⟩)
        | (go_at_call 23; refine (HWW.out _).mono ?_; rintro e w' ⟨rfl, rfl⟩)
        | (refine step_append_own rfl (.tmp 11) (.tmp 37) 37 rfl w.heap.size 5 i0 (.int .u8 0) 1 1 Tryd.underlying37 hi hz0 hz1 hz2 rfl Nat.zero_lt_one _ 3 _ rfl ((hown.alloc _).alloc _) ⟨wr.heap.size + 1, 0, none⟩ 3 3 [.int .u8 p1, .int .u8 p2, .int .u8 p3] rfl rfl (three_new _ _ _ _ _ (hsz1 _)) (three_one _ _ _) (Nat.le_of_ble_eq_true rfl) (Nat.le_of_ble_eq_true rfl) (hB2 _ _) ?_; intro v' w2 hown' hgrow; have k0 := keep5 hgrow.block hrow 0; have k1 := keep5 hgrow.block hrow 1; have k2 := keep5 hgrow.block hrow 2; have k3 := keep5 hgrow.block hrow 3; have k4 := keep5 hgrow.block hrow 4))
      clear k0 k1 k2 k3 k4 HR HWW HX e1 e2 e3 e4
      have hb2 : Below w.heap.size w w2 := ((hbw.alloc hbs _).alloc (by rw [hsz1]; omega) _).grown (row := u3.ownBlock) ⟨hgrow.os, hgrow.tape, hgrow.output, hgrow.size, hgrow.block⟩ (hB2 _ _) (fun k hk => (hown.lt k hk).1)
      have ho2 : w2.ownsRow w.heap.size 5 1 v' (3 * 2) ((lets m 2).map (Value.int .u8)) := by rw [HLL.out, List.map_append]; exact hown'
      clear hgrow hown' hown
      go_wp2
      go_roundw
      case rel => exact ⟨2, rfl, by omega, ho2, hb2⟩
      case measure => simp [intOf]
    · have HR : Hid (∀ w, Calls Tryd.prog 23 #[.bool (bt m 4), .int .u8 114] w fun e w' => e = .returned (.int .u8 (lif (bt m 4) 114)) ∧ w' = w) := fun w => letterIf_c _ _ w
      have HWW : Hid (∀ w, Calls Tryd.prog 23 #[.bool (bt m 2), .int .u8 119] w fun e w' => e = .returned (.int .u8 (lif (bt m 2) 119)) ∧ w' = w) := fun w => letterIf_c _ _ w
      have HX : Hid (∀ w, Calls Tryd.prog 24 #[.bool (bt m 1), .bool (bt m 512), .int .u8 116] w fun e w' => e = .returned (.int .u8 (exl (bt m 1) (bt m 512) 116)) ∧ w' = w) := fun w => executeLetter_c _ _ _ (by decide) (by decide) w
      have e1 : (bits .and .i64 m 4 != 0) = bt m 4 := rfl
      have e2 : (bits .and .i64 m 2 != 0) = bt m 2 := rfl
      have e3 : (bits .and .i64 m 1 != 0) = bt m 1 := rfl
      have e4 : (bits .and .i64 m 512 != 0) = bt m 512 := rfl
      obtain ⟨p1, hp1⟩ : ∃ p, p = lif (bt m 4) 114 := ⟨_, rfl⟩
      obtain ⟨p2, hp2⟩ : ∃ p, p = lif (bt m 2) 119 := ⟨_, rfl⟩
      obtain ⟨p3, hp3⟩ : ∃ p, p = exl (bt m 1) (bt m 512) 116 := ⟨_, rfl⟩
      have HLL : Hid (lets m 3 = lets m 2 ++ [p1, p2, p3]) := by show _ = _; rw [hp1, hp2, hp3]; rfl
      rw [← hp1] at HR
      rw [← hp2] at HWW
      rw [← hp3] at HX
      obtain ⟨q1, hq1⟩ : ∃ q, q = bt m 4 := ⟨_, rfl⟩
      obtain ⟨q2, hq2⟩ : ∃ q, q = bt m 2 := ⟨_, rfl⟩
      obtain ⟨q3, hq3⟩ : ∃ q, q = bt m 1 := ⟨_, rfl⟩
      obtain ⟨q4, hq4⟩ : ∃ q, q = bt m 512 := ⟨_, rfl⟩
      rw [← hq1] at HR e1
      rw [← hq2] at HWW e2
      rw [← hq3, ← hq4] at HX
      rw [← hq3] at e3
      rw [← hq4] at e4
      clear hp1 hp2 hp3 hq1 hq2 hq3 hq4
      have hsz1 : ∀ o, (wr.alloc o).heap.size = wr.heap.size + 1 := fun o => by simp
      have hrow : ∀ k, u3.ownBlock = some k → k < wr.heap.size := fun k hk => (hown.lt k hk).2
      have hB2 : ∀ o o', w.heap.size ≤ ((wr.alloc o).alloc o').heap.size := fun o o' => by simp; omega
      go_wp2
      go_region_held3 (fun w' => w'.cell? ⟨wr.heap.size, 0, none⟩ = some (.int .i64 4) ∧ w'.cell? ⟨wr.heap.size, 1, none⟩ = some (.int .i64 2) ∧ w'.cell? ⟨wr.heap.size, 2, none⟩ = some (.int .i64 1) ∧ w'.cell? ⟨wr.heap.size, 3, none⟩ = some (.int .i64 512) ∧ w'.cell? ⟨wr.heap.size, 4, none⟩ = some (.int .u8 116)) (first | go_keep | exact ⟨k0, k1, k2, k3, k4⟩) (first
        | (go_at_call 24; refine (HX.out _).mono ?_; rintro e w' ⟨rfl, rfl⟩)
        | (go_at_call_of 23 (Value.int IntKind.u8 114); refine (HR.out _).mono ?_; rintro e w' ⟨rfl, rfl⟩)
        | (go_at_call 23; refine (HWW.out _).mono ?_; rintro e w' ⟨rfl, rfl⟩)
        | (refine step_append_own rfl (.tmp 11) (.tmp 37) 37 rfl w.heap.size 5 i0 (.int .u8 0) 1 1 Tryd.underlying37 hi hz0 hz1 hz2 rfl Nat.zero_lt_one _ 6 _ rfl ((hown.alloc _).alloc _) ⟨wr.heap.size + 1, 0, none⟩ 3 3 [.int .u8 p1, .int .u8 p2, .int .u8 p3] rfl rfl (three_new _ _ _ _ _ (hsz1 _)) (three_one _ _ _) (Nat.le_of_ble_eq_true rfl) (Nat.le_of_ble_eq_true rfl) (hB2 _ _) ?_; intro v' w2 hown' hgrow; have k0 := keep5 hgrow.block hrow 0; have k1 := keep5 hgrow.block hrow 1; have k2 := keep5 hgrow.block hrow 2; have k3 := keep5 hgrow.block hrow 3; have k4 := keep5 hgrow.block hrow 4))
      clear k0 k1 k2 k3 k4 HR HWW HX e1 e2 e3 e4
      have hb2 : Below w.heap.size w w2 := ((hbw.alloc hbs _).alloc (by rw [hsz1]; omega) _).grown (row := u3.ownBlock) ⟨hgrow.os, hgrow.tape, hgrow.output, hgrow.size, hgrow.block⟩ (hB2 _ _) (fun k hk => (hown.lt k hk).1)
      have ho2 : w2.ownsRow w.heap.size 5 1 v' (3 * 3) ((lets m 3).map (Value.int .u8)) := by rw [HLL.out, List.map_append]; exact hown'
      clear hgrow hown' hown
      go_wp2
      go_roundw
      case rel => exact ⟨3, rfl, by omega, ho2, hb2⟩
      case measure => simp [intOf]
    · have hown3 : wr.ownsRow w.heap.size 5 1 u3 ((lets m 3).map fun x => x.toNat.toUInt8).length (Lib.byteCells ((lets m 3).map fun x => x.toNat.toUInt8)) := by
        rw [lets_cells]; exact hown
      have hcv := conv_m wr w.heap.size u3 _ hown3
      go_wp2
      go_ret
      exact ⟨rfl, hbw⟩
end Go.Proofs.YtjpoifoejbabiaaDoor
