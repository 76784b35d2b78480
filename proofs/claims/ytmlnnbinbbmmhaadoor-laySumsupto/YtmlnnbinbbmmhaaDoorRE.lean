
-- The document's Encode: plain parts.
import Derived.Test.YtmlnnbinbbmmhaaDoorKQ
import Derived.Test.YtmlnnbinbbmmhaaDoorIT
import Derived.Test.YtmlnnbinbbmmhaaDoorH1
import Derived.Test.YtmlnnbinbbmmhaaDoorRow
import Derived.Test.YtmlnnbinbbmmhaaDoorE0
import Derived.Laws.ResultCell
import Derived.Laws.IdiomStrings
import Derived.Laws.BytesArg
import Derived.LoopTactic
namespace Go.Proofs.YtmlnnbinbbmmhaaDoor
open Go.ChangeShapes Go.WideShapes Go.ChangeAt Go.RowKit
set_option linter.unusedVariables false
set_option maxRecDepth 100000

/-- a list of texts as cells -/
def strRow (φ : Nat → List UInt8) (j : Nat) : List Value := (List.range j).map (fun i => Value.string (strL (φ i)))
theorem strRow_succ (φ : Nat → List UInt8) (j : Nat) : strRow φ (j + 1) = strRow φ j ++ [.string (strL (φ j))] := by
  unfold strRow; rw [List.range_succ, List.map_append]; rfl
/-- the loop's state -/
def REnc (k : Int) (L : List (List UInt8)) (w : World) (j : Nat) (tv : Value) (wx : World) : Prop :=
  ∃ (fa : Option Addr) (fl fc : Nat) (ia : Option Addr) (il ic : Nat) (ta : Option Addr) (tl tc : Nat), tv = .slice ta tl tc ∧ tl = (tabL k (L.take j)).length ∧ wx.heap[w.heap.size]? = some (.cells #[.slice none 0 0, .slice none 0 0, .string ⟨#[]⟩] 36 (0, 0)) ∧ wx.heap[w.heap.size + 1]? = some (.cells #[.slice none 0 0, .slice none 0 0, .string ⟨#[]⟩] 36 (0, 0)) ∧
    wx.heap[w.heap.size + 1 + 1]? = some (.cells #[.slice fa fl fc, .slice ia il ic, .string ⟨#[]⟩] 36 (0, 0)) ∧ wx.ownsRow w.heap.size 9 1 (.slice fa fl fc) j (strRow (fAt k L) j) ∧ wx.ownsRow w.heap.size 9 1 (.slice ia il ic) j (strRow (iAt k L) j) ∧
    wx.ownsRow w.heap.size 5 1 (.slice ta tl tc) (tabL k (L.take j)).length (Lib.byteCells (tabL k (L.take j))) ∧ (∀ g, (Value.slice fa fl fc).ownBlock = some g → (Value.slice ia il ic).ownBlock ≠ some g) ∧ Below w.heap.size w wx
/-- what the document's Encode answers -/
def REncDone (k : Int) (L : List (List UInt8)) (w : World) (e : Ending) (w' : World) : Prop :=
  ∃ fv iv, e = .returned (.tuple #[.agg #[fv, iv, .string (strL (tabL k L))], .int .i64 0]) ∧ w'.ownsRow w.heap.size 9 1 fv L.length (strRow (fAt k L) L.length) ∧ w'.ownsRow w.heap.size 9 1 iv L.length (strRow (iAt k L) L.length) ∧ Below w.heap.size w w'
def REncNo (c : Int) (w : World) (e : Ending) (w' : World) : Prop := e = .returned (.tuple #[.agg #[.slice none 0 0, .slice none 0 0, .string ⟨#[]⟩], .int .i64 c]) ∧ Below w.heap.size w w'
theorem info9R : (Tryd.prog.info? 9).map (fun i => (i.zero, i.size, i.bytes)) = some (some (.string ⟨#[]⟩), 1, 16) := by kernel_rfl
theorem info5R : (Tryd.prog.info? 5).map (fun i => (i.zero, i.size, i.bytes)) = some (some (.int .u8 0), 1, 1) := by kernel_rfl
theorem byteCells_append (a b : List UInt8) : Lib.byteCells (a ++ b) = Lib.byteCells a ++ Lib.byteCells b := by simp [Lib.byteCells]
theorem conv_q (w : World) (base : Nat) (v : Value) (l : List UInt8) (h : w.ownsRow base 5 1 v l.length (Lib.byteCells l)) :
    (convert 65 9 v).run Tryd.prog w = .ok (.string (strL l)) w := by
  rcases h.2 with ⟨rfl, h0⟩ | ⟨g, cap, cur, rfl, _⟩
  · have : l = [] := List.eq_nil_of_length_eq_zero h0
    subst this
    exact run_convert_bytes_nil w 65 5 Tryd.underlying65 Tryd.underlying5 0 0 9 Tryd.underlying9
  · refine run_convert_bytes_back w 65 9 5 ⟨g, 0, none⟩ cap l Tryd.underlying65 Tryd.underlying5 Tryd.underlying9 (fun j hj => ?_)
    exact h.cells (g := g) rfl j _ (by simp [Lib.byteCells, hj])
theorem dg_len15 (v : Nat) (h : v ≤ 1000000000000) : (dg 10 v).length ≤ 13 := by
  refine (dg_len 10 (by decide) 13 v (big64 10 v (by decide) (by omega)) (by decide)).2 ?_
  have : (10 : Nat) ^ 13 = 10000000000000 := by decide
  omega
theorem dg_str (v : Nat) (h : v ≤ 1000000000000) : (strL (dg 10 v)).size ≤ 13 := by rw [strL_size]; exact dg_len15 v h
theorem strL_size' (l : List UInt8) : (strL l).size = l.length := strL_size l
theorem RowS.get {w : World} {v : Value} {l : List ByteArray} (h : RowS w v l) : ∃ ao cap, v = .slice ao l.length cap ∧ ∀ j, j < l.length → ∃ b off, ao = some ⟨b, off, none⟩ ∧ b < w.heap.size ∧ w.cell? ⟨b, off + j, none⟩ = some (.string (l.getD j .empty)) := by
  rcases h with ⟨h0, ao, c, rfl⟩ | ⟨b, off, cap, rfl, hc⟩
  · exact ⟨ao, c, by rw [h0]; rfl, fun j hj => by rw [h0] at hj; simp at hj⟩
  · exact ⟨some ⟨b, off, none⟩, cap, rfl, fun j hj => ⟨b, off, rfl, block_lt_of_cell (hc j hj), hc j hj⟩⟩
theorem ne_at {W : World} {o : Obj} {v v' x : Value} (h : v'.ownBlock = v.ownBlock ∨ v'.ownBlock = some (W.alloc o).heap.size) (hne : ∀ g, v.ownBlock = some g → x.ownBlock ≠ some g) (hl : ∀ g, x.ownBlock = some g → g < W.heap.size) : ∀ g, v'.ownBlock = some g → x.ownBlock ≠ some g := by
  intro g h1 h2
  rcases h with q | q
  · exact hne g (q ▸ h1) h2
  · rw [q] at h1
    injection h1 with h1
    have := hl g h2
    rw [World.size_alloc] at h1
    omega
theorem ne_at2 {W : World} {o : Obj} {v v' x : Value} (h : v'.ownBlock = v.ownBlock ∨ v'.ownBlock = some (W.alloc o).heap.size) (hne : ∀ g, x.ownBlock = some g → v.ownBlock ≠ some g) (hl : ∀ g, x.ownBlock = some g → g < W.heap.size) : ∀ g, x.ownBlock = some g → v'.ownBlock ≠ some g :=
  fun g h1 h2 => ne_at h (fun g q1 q2 => hne g q2 q1) hl g h2 h1
theorem own_len {w : World} {B : Nat} {e : TypeId} {size n : Nat} {a : Option Addr} {l c : Nat} {xs : List Value} (h : w.ownsRow B e size (.slice a l c) n xs) : l = n := by
  rcases h.2 with ⟨q, rfl⟩ | ⟨g, cap, cur, q, _⟩
  · injection q
  · injection q
theorem strCells_eq (s : ByteArray) : Lib.strCells s = Lib.byteCells s.data.toList := rfl
theorem strL_nil : strL [] = ⟨#[]⟩ := rfl
theorem cat47 (l : List UInt8) : (⟨#[47]⟩ : ByteArray) ++ strL l = strL (47 :: l) := strL_append [47] l
theorem cat3 (l : List UInt8) : (⟨#[35, 49, 47]⟩ : ByteArray) ++ strL l = strL ([35, 49, 47] ++ l) := strL_append [35, 49, 47] l
theorem catS (s : ByteArray) : s ++ (⟨#[47]⟩ : ByteArray) = strL (s.data.toList ++ [47]) := by
  rw [← strL_append]; congr 1
theorem strL_self (s : ByteArray) : strL s.data.toList = s := by apply ByteArray.ext; simp [strL]
theorem own_sliceR {w : World} {B : Nat} {e : TypeId} {size n : Nat} {v : Value} {xs : List Value} (h : w.ownsRow B e size v n xs) : ∃ ao l c, v = .slice ao l c := by
  rcases h.2 with ⟨rfl, _⟩ | ⟨g, cap, cur, rfl, _⟩
  · exact ⟨_, _, _, rfl⟩
  · exact ⟨_, _, _, rfl⟩
theorem results_cell_tmp_rowR {P : Program} {fn : Func} {p u : Tmp} {ty : TypeId} (h : fn.results = #[.cell p ty, .tmp u]) (tmps : Array Value) (w : World) (g : Nat) (t : TypeId) (cs : Array Value) (fr : Nat × Nat) (d : TypeDesc) (x : Value)
    (hp : tmps.getD p undef = .pointer (some ⟨g, 0, none⟩)) (hx : tmps.getD u undef = x) (hg : w.heap[g]? = some (.cells cs t fr))
    (hu : P.underlying ty = some d) (hd : (match d with | .struct _ | .array _ _ => true | _ => false) = true) (hi : (P.info? ty).map (·.size) = some cs.size) :
    (results fn tmps).run P w = .ok (.tuple #[.agg cs, x]) w := by
  rw [results_cell_tmp h, hp, hx]
  simp [asAddr, Result.andThen, run_loadVar_row w g t ty cs fr d hg hu hd hi]
theorem fAt_at (k : Int) (LL : List ByteArray) (j : Nat) (s : ByteArray) (h : LL.getD j .empty = s) (hj : j < LL.length) : fAt k (LL.map (·.data.toList)) j = fieldOf k s.data.toList (tabL k ((LL.map (·.data.toList)).take j)).length ∧ iAt k (LL.map (·.data.toList)) j = inlOf k s.data.toList ∧ tabL k ((LL.map (·.data.toList)).take (j + 1)) = tabL k ((LL.map (·.data.toList)).take j) ++ tabOf k s.data.toList := by
  have e : (LL.map (·.data.toList))[j]? = some s.data.toList := by
    rw [List.getElem?_map, List.getElem?_eq_getElem hj]
    simp only [List.getD, List.getElem?_eq_getElem hj, Option.getD_some] at h
    simp [h]
  refine ⟨?_, ?_, tab_next k _ j _ e⟩
  · unfold fAt; rw [List.getD, e]; rfl
  · unfold iAt; rw [List.getD, e]; rfl
end Go.Proofs.YtmlnnbinbbmmhaaDoor
