
-- Commands and words in memory; what Decode and Line answer.
import Derived.Test.YtmhamlhmmkbkaaaDoorP5
import Derived.Test.YtmhamlhmmkbkaaaDoorA0
namespace Go.Proofs.YtmhamlhmmkbkaaaDoor
open Go.ChangeShapes Go.WideShapes Go.ChangeAt Go.RowKit
set_option linter.unusedVariables false
set_option maxRecDepth 100000
set_option linter.unusedSimpArgs false
def cmL (c : Cm) (u : Value) : List Value := [.int .i64 c.prog, .int .u8 (c.op.toNat : Int), .bool c.vb, .bool c.up, .bool c.qu, .bool c.det, .bool c.dat, .bool c.bare, .bool c.thin, .int .i64 c.kind, .int .i64 c.wh, .string c.anc, .string c.arc, u]
def ansC (a : Ans) : Cm := match a with
  | .inl _ => cm0
  | .inr c => c
def ansW (a : Ans) : ByteArray := match a with
  | .inl x => x.1
  | .inr _ => ⟨#[]⟩
def ansE (a : Ans) : Int := match a with
  | .inl x => x.2
  | .inr _ => 0

def lineA (c : Cm) : List ByteArray := if refC c = 0 then lineW c else []
def DecodeOk (f : Nat) : Prop := ∀ (v : Value) (L : List ByteArray) (w : World), RowT w v L → L.length ≤ 16777216 → totT L ≤ 16777216 → Calls Tryd.prog f #[v] w fun e w' => ∃ u, e = .returned (.tuple #[.agg (cmL (ansC (decC L)) u).toArray, .string (ansW (decC L)), .int .i64 (ansE (decC L))]) ∧ OwnT w.heap.size w' u (ansC (decC L)).nms ∧ Below w.heap.size w w'
def LineOk (f : Nat) : Prop := ∀ (c : Cm) (v : Value) (w : World), RowT w v c.nms → c.nms.length ≤ 16777216 → totT c.nms ≤ 16777216 → c.anc.size ≤ 16777216 → c.arc.size ≤ 16777216 → Calls Tryd.prog f #[.agg (cmL c v).toArray] w fun e w' => ∃ u, e = .returned (.tuple #[u, .int .i64 (refC c)]) ∧ OwnT w.heap.size w' u (lineA c) ∧ Below w.heap.size w w'
theorem idxT (s : ByteArray) (k : Nat) (h : k < s.size) : ∀ w, (Instr.index 9 (.string s) (.int .i64 (k : Int))).run Tryd.prog w = .ok (.int .u8 (s[k].toNat : Int)) w := by
  intro w
  rw [run_index_string w 9 s .i64 k Tryd.underlying9, dif_pos (by omega)]
  simp
theorem getT (S : ByteArray) (k : Nat) (h : k < S.size) : (byL S)[k]'(by rw [byL_size]; exact h) = S[k] := by
  simp only [byL, Array.getElem_toList]
  rfl
theorem dsh_short {s : ByteArray} (h : s.size ≤ 1) : dsh s = false := by
  unfold dsh
  split
  · next e => have := congrArg List.length e; rw [byL_size] at this; simp at this; omega
  · rfl
theorem dsh_long {s : ByteArray} (h : 1 < s.size) : dsh s = (s[0]'(by omega) == 45) := by
  have h1 := getT s 0 (by omega)
  have h2 := byL_size s
  unfold dsh
  split
  · next e => simp only [e] at h1; rw [← h1]; rfl
  · next hne =>
    cases hl : byL s with
    | nil => rw [hl] at h2; simp at h2; omega
    | cons a r =>
      cases r with
      | nil => rw [hl] at h2; simp at h2; omega
      | cons b t =>
        simp only [hl] at h1
        rw [← h1]
        symm
        simp only [List.getElem_cons_zero]
        refine beq_eq_false_iff_ne.2 fun e => ?_
        subst e
        exact hne b t hl
theorem infoTx15 : (Tryd.prog.info? 9).map (fun i => (i.zero, i.size, i.bytes)) = some (some (.string ⟨#[]⟩), 1, 16) := by kernel_rfl
theorem bel3C {w a b : World} (h : Below w.heap.size w a) (k : Below a.heap.size a b) : Below w.heap.size w b := bel3K h k
theorem u8I {a b : UInt8} (h : a ≠ b) : ((a.toNat : Int) == (b.toNat : Int)) = false := by
  refine beq_eq_false_iff_ne.2 fun e => h ?_
  apply UInt8.toNat_inj.1
  exact Int.ofNat_inj.1 e
end Go.Proofs.YtmhamlhmmkbkaaaDoor
