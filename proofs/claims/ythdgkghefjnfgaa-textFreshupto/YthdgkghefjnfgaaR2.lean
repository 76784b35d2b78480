-- The document's own Words: the half-read line in memory.
import Derived.Test.YthdgkghefjnfgaaR1
import Derived.Deep.RegionLaw
import Derived.Lib.Builder
import Derived.Lib.SmallJoins
import Derived.Below
namespace Go.Proofs.Ythdgkghefjnfgaa
open Go.RowKit
set_option linter.unusedVariables false
/-- An append onto a row of the call's own, as one step of a region that draws its order. -/
theorem step_append_own {P : Program} {ops : Array Oper} {o : Oper} {a : Act} {w : World} {K : Act → World → Prop} {Q : Exit → Act → World → Prop} {E : Prop}
    (hg : o.guard = none) (s x : Operand) (t : TypeId) (hop : o.op = Op.call { callee := Callee.builtin Builtin.append, args := #[s, x], argTypes := #[t, t] })
    (base : Nat) (e : TypeId) (i : TypeInfo) (z : Value) (size bytes : Nat) (h1 : P.underlying t = some (.slice e)) (h2 : P.info? e = some i) (h3 : i.zero = some z) (h4 : i.size = size) (h5 : i.bytes = bytes) (h6 : z.cells.size = size) (h7 : 0 < size)
    (v : Value) (n : Nat) (xs : List Value) (hs : a.eval s = v) (hown : w.ownsRow base e size v n xs)
    (ad : Addr) (m c : Nat) (news : List Value) (hx : a.eval x = .slice (some ad) m c) (hn : news.length = m * size) (hc : ∀ j u, news[j]? = some u → w.cell? (ad.add j) = some u) (h1c : ∀ u ∈ news, u.oneCell' = true)
    (b1 : n + m ≤ maxLen) (b2 : (n + m) * bytes ≤ 140737488355328) (hB : base ≤ w.heap.size)
    (hK : ∀ v' w', w'.ownsRow base e size v' (n + m) (xs ++ news) → w.grownBy w' v.ownBlock → K (a.put o.dst v') w') :
    if Region.wanted o (yielded ops a.tmps) = true then Oper.wp P o a w K Q else E := by
  have hw : Region.wanted o (yielded ops a.tmps) = true := by simp [Region.wanted, hg]
  rw [if_pos hw]
  obtain ⟨v', w', hrun, r1, r2, _⟩ := run_append_own (P := P) w base t o.type e i z size bytes h1 h2 h3 h4 h5 h6 h7 v n xs hown ad m c news hn hc h1c b1 b2 hB
  unfold Oper.wp
  simp [execOp, hop, resolve, invoke, builtin, hs, hx, hrun, Result.andThen]
  exact hK v' w' r1 r2
/-- A line half read, in memory: the words that are whole, whether one is open, its bytes, the open quote (-1: none), the place. -/
def ScanAt (B : Nat) (w : World) (ws : List ByteArray) (inn : Bool) (wd : List UInt8) (q at_ : Int) : Prop :=
  ∃ v u, w.heap[B]? = some (.cells #[v, .bool inn, u, .int .i64 q, .int .i64 at_] 43 (0, 0)) ∧ w.ownsRow (B + 1) 9 1 v ws.length (strV ws) ∧ w.ownsRow (B + 1) 5 1 u wd.length (Lib.byteCells wd)
theorem one_new (w : World) (x : Value) (t : TypeId) : ∀ j u, [x][j]? = some u → (w.alloc (.cells #[x] t)).cell? ((⟨w.heap.size, 0, none⟩ : Addr).add j) = some u := by
  intro j u hj
  match j, hj with
  | 0, hj => simp at hj; subst hj; simp [Addr.add]
theorem blk_set {w : World} {g i : Nat} {cs : Array Value} {t : TypeId} {fr : Nat × Nat} (h : w.heap[g]? = some (.cells cs t fr)) (v : Value) : (w.setCell ⟨g, i, none⟩ v).heap[g]? = some (.cells (cs.setIfInBounds i v) t fr) := by
  simp [World.setCell, Array.getElem?_modify, h]
theorem own_ne {w : World} {B : Nat} {e : TypeId} {v : Value} {n : Nat} {xs : List Value} (h : w.ownsRow (B + 1) e 1 v n xs) : some B ≠ v.ownBlock := fun e => by
  have := (h.lt B e.symm).1; omega
theorem slice_form {w : World} {B : Nat} {e : TypeId} {v : Value} {n : Nat} {xs : List Value} (h : w.ownsRow B e 1 v n xs) : ∃ ao n' cap, v = .slice ao n' cap := by
  rcases h.2 with ⟨hv, _⟩ | ⟨g, cap, cur, hv, _⟩
  · exact ⟨_, _, _, hv⟩
  · exact ⟨_, _, _, hv⟩
/-- Rows of different element types lie apart. -/
theorem own_apart {w : World} {B : Nat} {v u : Value} {n m : Nat} {xs ys : List Value} (hv : w.ownsRow B 9 1 v n xs) (hu : w.ownsRow B 5 1 u m ys) : u.ownBlock = none ∨ u.ownBlock ≠ v.ownBlock := by
  rcases hu.2 with ⟨rfl, _⟩ | ⟨g, cap, cur, rfl, _, hg, _⟩
  · exact .inl rfl
  · refine .inr fun e => ?_
    rcases hv.2 with ⟨rfl, _⟩ | ⟨g', cap', cur', rfl, _, hg', _⟩
    · cases e
    · simp only [Value.ownBlock, Option.some.injEq] at e
      subst e
      rw [hg] at hg'
      cases hg'
theorem scan_ended {B : Nat} {w w2 : World} {v u v' : Value} {ws : List ByteArray} {x : ByteArray} {q a : Int} {o : Obj}
    (hbk : w.heap[B]? = some (.cells #[v, .bool true, u, .int .i64 q, .int .i64 a] 43 (0, 0))) (hv : w.ownsRow (B + 1) 9 1 v ws.length (strV ws)) (hlt : B < w.heap.size)
    (hown' : w2.ownsRow (B + 1) 9 1 v' (ws.length + 1) (strV ws ++ [.string x])) (hgrow : (w.alloc o).grownBy w2 v.ownBlock) :
    ScanAt B (((w2.setCell ⟨B, 0, none⟩ v').setCell ⟨B, 1, none⟩ (.bool false)).setCell ⟨B, 2, none⟩ (.slice none 0 0)) (ws ++ [x]) false [] q a ∧
      Below B w (((w2.setCell ⟨B, 0, none⟩ v').setCell ⟨B, 1, none⟩ (.bool false)).setCell ⟨B, 2, none⟩ (.slice none 0 0)) := by
  have hb2 : w2.heap[B]? = some (.cells #[v, .bool true, u, .int .i64 q, .int .i64 a] 43 (0, 0)) := ((hgrow.block B (by simp; omega) (own_ne hv)).trans (Lib.alloc_old w _ B hlt)).trans hbk
  refine ⟨⟨v', _, ?_, ?_, World.ownsRow_nil _ _ _ _⟩, ?_⟩
  · rw [blk_set (blk_set (blk_set hb2 _) _)]; rfl
  · refine ownsRow_setCell_below (ownsRow_setCell_below (ownsRow_setCell_below ?_ (by simp) _) (by simp) _) (by simp) _
    simpa [strV] using hown'
  · exact (((((Below.refl B w).alloc (by omega) o).grown hgrow (by simp; omega) (fun k hk => by have := (hv.lt k hk).1; omega)).setCell (p := ⟨B, 0, none⟩) (Nat.le_refl _) _).setCell (p := ⟨B, 1, none⟩) (Nat.le_refl _) _).setCell (p := ⟨B, 2, none⟩) (Nat.le_refl _) _
set_option maxHeartbeats 1000000 in
theorem end_open (B : Nat) (w : World) (ws : List ByteArray) (wd : List UInt8) (q a : Int) (h : ScanAt B w ws true wd q a) (hl : ws.length ≤ 4194304) (hw : wd.length ≤ 4194304) :
    Calls Try.prog 20 #[.pointer (some ⟨B, 0, none⟩)] w fun e w' => e = .returned (.tuple #[]) ∧ ScanAt B w' (ws ++ [strB wd]) false [] q a ∧ Below B w w' := by
  obtain ⟨v, u, hbk, hv, hu⟩ := h
  obtain ⟨i0, hi, hz0, hz1, hz2⟩ := info_parts info9
  have hlt : B < w.heap.size := (Array.getElem?_eq_some_iff.1 hbk).1
  have c0 : w.cell? ⟨B, 0, none⟩ = some v := by rw [Lib.cell_of_heap hbk]; rfl
  have c1 : w.cell? ⟨B, 1, none⟩ = some (.bool true) := by rw [Lib.cell_of_heap hbk]; rfl
  have c2 : w.cell? ⟨B, 2, none⟩ = some u := by rw [Lib.cell_of_heap hbk]; rfl
  have hcv : (convert 41 9 u).run Try.prog w.drew = _ := conv_own w.drew (B + 1) u wd hu
  have HL : Hid (ws.length ≤ 4194304) := hl
  have HBK : Hid (w.heap[B]? = some (.cells #[v, .bool true, u, .int .i64 q, .int .i64 a] 43 (0, 0))) := hbk
  have HU : Hid (w.ownsRow (B + 1) 5 1 u wd.length (Lib.byteCells wd)) := hu
  have HV : Hid (w.ownsRow (B + 1) 9 1 v ws.length (strV ws)) := hv
  clear hl hw hbk hu hv
  go_enter Try.func20, Try.ntmps20
  go_wp2
  go_region_law (refine step_append_own rfl (.tmp 10) (.tmp 16) 22 rfl (B + 1) 9 i0 (.string ⟨#[]⟩) 1 16 Try.underlying22 hi hz0 hz1 hz2 rfl (by decide) v ws.length (strV ws) (by simp [Act.eval]) (by exact HV.out.alloc _) ⟨w.heap.size, 0, none⟩ 1 1 [.string (strB wd)] (by simp [Act.eval]) rfl (one_new _ _ _) (by intro u hu; simp at hu; subst hu; rfl) (by have := HL.out; unfold maxLen; omega) (by have := HL.out; omega) (by simp; omega) ?_; intro v' w2 hown' hgrow; obtain ⟨ao, n', cap, rfl⟩ := slice_form hown'; have hb2 : w2.heap[B]? = some (.cells #[v, .bool true, u, .int .i64 q, .int .i64 a] 43 (0, 0)) := ((hgrow.block B (by simp; omega) (own_ne HV.out)).trans (Lib.alloc_old w _ B hlt)).trans HBK.out; have d0 : w2.cell? ⟨B, 0, none⟩ = some v := (by rw [Lib.cell_of_heap hb2]; rfl); have f0 := Lib.frozen_of_heap hb2 0; have d1 : w2.cell? ⟨B, 1, none⟩ = some (.bool true) := (by rw [Lib.cell_of_heap hb2]; rfl); have f1 := Lib.frozen_of_heap hb2 1; have d2 : w2.cell? ⟨B, 2, none⟩ = some u := (by rw [Lib.cell_of_heap hb2]; rfl); have f2 := Lib.frozen_of_heap hb2 2)
  all_goals
    go_wp2
    go_end0
    exact ⟨rfl, scan_ended HBK.out HV.out hlt hown' ⟨hgrow.os, hgrow.tape, hgrow.output, hgrow.size, hgrow.block⟩⟩
theorem end_shut (B : Nat) (w : World) (ws : List ByteArray) (wd : List UInt8) (q a : Int) (h : ScanAt B w ws false wd q a) :
    Calls Try.prog 20 #[.pointer (some ⟨B, 0, none⟩)] w fun e w' => e = .returned (.tuple #[]) ∧ ScanAt B w' ws false [] q a ∧ Below B w w' := by
  obtain ⟨v, u, hbk, hv, hu⟩ := h
  have hlt : B < w.heap.size := (Array.getElem?_eq_some_iff.1 hbk).1
  have c1 : w.cell? ⟨B, 1, none⟩ = some (.bool false) := by rw [Lib.cell_of_heap hbk]; rfl
  have c2 : w.cell? ⟨B, 2, none⟩ = some u := by rw [Lib.cell_of_heap hbk]; rfl
  have f1 := Lib.frozen_of_heap hbk 1
  have f2 := Lib.frozen_of_heap hbk 2
  have HBK : Hid (w.heap[B]? = some (.cells #[v, .bool false, u, .int .i64 q, .int .i64 a] 43 (0, 0))) := hbk
  clear hbk
  go_enter Try.func20, Try.ntmps20
  go_wp2
  go_end0
  refine ⟨rfl, ⟨v, _, ?_, ownsRow_setCell_below (ownsRow_setCell_below hv (by simp) _) (by simp) _, World.ownsRow_nil _ _ _ _⟩, ((Below.refl B w).setCell (p := ⟨B, 1, none⟩) (Nat.le_refl _) _).setCell (p := ⟨B, 2, none⟩) (Nat.le_refl _) _⟩
  rw [blk_set (blk_set HBK.out _)]; rfl
/-- The quote's place, as memory has it. -/
def qI : Option Nat → Int
  | none => -1
  | some p => p
theorem end_c (B : Nat) (w : World) (ws : List ByteArray) (inn : Bool) (wd : List UInt8) (q a : Int) (h : ScanAt B w ws inn wd q a) (hl : ws.length ≤ 4194304) (hw : wd.length ≤ 4194304) :
    Calls Try.prog 20 #[.pointer (some ⟨B, 0, none⟩)] w fun e w' => e = .returned (.tuple #[]) ∧ ScanAt B w' (endW inn wd ws) false [] q a ∧ Below B w w' := by
  cases inn with
  | true => exact end_open B w ws wd q a h hl hw
  | false => exact end_shut B w ws wd q a h
end Go.Proofs.Ythdgkghefjnfgaa
