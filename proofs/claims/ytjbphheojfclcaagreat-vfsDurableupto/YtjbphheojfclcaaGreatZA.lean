
-- An answer with its error.
import Derived.Test.YtjbphheojfclcaaGreatZP
import Derived.Test.YtjbphheojfclcaaGreatU12
import Derived.Test.YtjbphheojfclcaaGreatU16
namespace Go.Proofs.YtjbphheojfclcaaGreat
open Go.RowKit
set_option linter.unusedVariables false
set_option maxRecDepth 100000
/-- The cells of an answer; lv: its list. -/
def ansV (a : An) (lv : Value) : Array Value := #[.string a.s, .int .i64 a.n, .int .i64 a.i0, .int .i64 a.i1, .int .i64 a.i2, .int .i64 a.i3, .string a.iname, .int .i64 a.isz, lv, .bool a.bad, .bool false, .string a.op, .string a.nm, .int .i64 a.e]
theorem sizeAns : (Tryz.prog.info? 34).map (·.size) = some 14 := by kernel_rfl
theorem assertFE4 (v : Value) (w : World) : (Instr.typeAssert (.iface 122 v) 75 122 true).run Tryz.prog w = .ok (.tuple #[v, .bool true]) w := by kernel_rfl
/-- What is made of an answer and an error. -/
def Withed (a : An) (op nm : ByteArray) (e : Nat) (ao : Option Addr) (c : Nat) (w w' : World) (r : Ending) : Prop := r = .returned (.agg (ansV (a.fail op nm e) (.slice ao a.l.length c))) ∧ Below w.heap.size w w'
theorem results_one {P : Program} {fn : Func} {p : Tmp} {ty : TypeId} (h : fn.results = #[.cell p ty]) (tmps : Array Value) (w : World) (g : Nat) (t : TypeId) (cs : Array Value) (fr : Nat × Nat) (d : TypeDesc)
    (hp : tmps.getD p undef = .pointer (some ⟨g, 0, none⟩)) (hg : w.heap[g]? = some (.cells cs t fr))
    (hu : P.underlying ty = some d) (hd : (match d with | .struct _ | .array _ _ => true | _ => false) = true) (hi : (P.info? ty).map (·.size) = some cs.size) :
    (results fn tmps).run P w = .ok (.agg cs) w := by
  have hp' : tmps[p]?.getD undef = .pointer (some ⟨g, 0, none⟩) := by simpa using hp
  simp [results, h, hp', asAddr, run_loadVar_row w g t ty cs fr d hg hu hd hi]
theorem new_at {W : World} {X : Obj} {n : Nat} (h : W.heap.size = n) : (W.alloc X).heap[n]? = some X := by subst h; exact heap_alloc_new W X
set_option maxRecDepth 20000 in
set_option maxHeartbeats 8000000 in
theorem with_ok (s : ByteArray) (n i0 i1 i2 i3 : Int) (inm : ByteArray) (isz : Int) (ao : Option Addr) (l c : Nat) (w : World) :
    Calls Tryz.prog 31 #[.agg #[.string s, .int .i64 n, .int .i64 i0, .int .i64 i1, .int .i64 i2, .int .i64 i3, .string inm, .int .i64 isz, .slice ao l c, .bool false, .bool false, .string ⟨#[]⟩, .string ⟨#[]⟩, .int .i64 0], .nilIface] w fun r w' => r = .returned (.agg #[.string s, .int .i64 n, .int .i64 i0, .int .i64 i1, .int .i64 i2, .int .i64 i3, .string inm, .int .i64 isz, .slice ao l c, .bool false, .bool false, .string ⟨#[]⟩, .string ⟨#[]⟩, .int .i64 0]) ∧ Below w.heap.size w w' := by
  go_enter Tryz.func31, Tryz.ntmps31
  go_wp2
  refine bodyPost_ret (results_one rfl _ _ (w.heap.size + 1) 34 #[.string s, .int .i64 n, .int .i64 i0, .int .i64 i1, .int .i64 i2, .int .i64 i3, .string inm, .int .i64 isz, .slice ao l c, .bool false, .bool false, .string ⟨#[]⟩, .string ⟨#[]⟩, .int .i64 0] (0, 0) _ rfl (new_at (by simp)) Tryz.underlying34 rfl sizeAns) rfl ?_
  exact ⟨rfl, ((Below.refl _ w).alloc (Nat.le_refl _) _).alloc (by simp) _⟩
set_option maxRecDepth 20000 in
set_option maxHeartbeats 8000000 in
theorem with_bad (s : ByteArray) (n i0 i1 i2 i3 : Int) (inm : ByteArray) (isz : Int) (ao : Option Addr) (l c : Nat) (op nm : ByteArray) (e : Nat) (b : Nat) (w : World) (hb : w.heap[b]? = some (.cells #[.string op, .string nm, .int .i64 e] 32 (0, 0))) :
    Calls Tryz.prog 31 #[.agg #[.string s, .int .i64 n, .int .i64 i0, .int .i64 i1, .int .i64 i2, .int .i64 i3, .string inm, .int .i64 isz, .slice ao l c, .bool false, .bool false, .string ⟨#[]⟩, .string ⟨#[]⟩, .int .i64 0], .iface 122 (.pointer (some ⟨b, 0, none⟩))] w fun r w' => r = .returned (.agg #[.string s, .int .i64 n, .int .i64 i0, .int .i64 i1, .int .i64 i2, .int .i64 i3, .string inm, .int .i64 isz, .slice ao l c, .bool true, .bool false, .string op, .string nm, .int .i64 e]) ∧ Below w.heap.size w w' := by
  have c0 : w.cell? ⟨b, 0, none⟩ = some (.string op) := by rw [Lib.cell_of_heap hb]; rfl
  have c1 : w.cell? ⟨b, 1, none⟩ = some (.string nm) := by rw [Lib.cell_of_heap hb]; rfl
  have c2 : w.cell? ⟨b, 2, none⟩ = some (.int .i64 e) := by rw [Lib.cell_of_heap hb]; rfl
  have hfe := assertFE4
  have hbe := ((Below.refl w.heap.size w).alloc (Nat.le_refl _) (.cells #[.string s, .int .i64 n, .int .i64 i0, .int .i64 i1, .int .i64 i2, .int .i64 i3, .string inm, .int .i64 isz, .slice ao l c, .bool true, .bool false, .string ⟨#[]⟩, .string ⟨#[]⟩, .int .i64 0] 34)).alloc (by simp) (.cells #[.string ⟨#[]⟩, .int .i64 0, .int .i64 0, .int .i64 0, .int .i64 0, .int .i64 0, .string ⟨#[]⟩, .int .i64 0, .slice none 0 0, .bool false, .bool false, .string ⟨#[]⟩, .string ⟨#[]⟩, .int .i64 0] 34)
  have d0 := cell_below hbe c0
  have d1 := cell_below hbe c1
  have d2 := cell_below hbe c2
  clear hb hbe
  go_enter Tryz.func31, Tryz.ntmps31
  go_wp2
  refine bodyPost_ret (results_one rfl _ _ (w.heap.size + 1) 34 #[.string s, .int .i64 n, .int .i64 i0, .int .i64 i1, .int .i64 i2, .int .i64 i3, .string inm, .int .i64 isz, .slice ao l c, .bool true, .bool false, .string op, .string nm, .int .i64 e] (0, 0) _ rfl (new_at (by simp)) Tryz.underlying34 rfl sizeAns) rfl ?_
  exact ⟨rfl, ((Below.refl _ w).alloc (Nat.le_refl _) _).alloc (by simp) _⟩
/-- An answer without error, and an error: the answer with it. -/
theorem with_c (a : An) (ao : Option Addr) (c B : Nat) (op nm : ByteArray) (e : Nat) (ev : Value) (w : World) (ha : a.bad = false ∧ a.op = ⟨#[]⟩ ∧ a.nm = ⟨#[]⟩ ∧ a.e = 0) (h : ErrIs w B op nm e ev) :
    Calls Tryz.prog 31 #[.agg (ansV a (.slice ao a.l.length c)), ev] w (fun r w' => Withed a op nm e ao c w w' r) := by
  obtain ⟨s, n, i0, i1, i2, i3, inm, isz, l, bad, op', nm', e'⟩ := a
  obtain ⟨rfl, rfl, rfl, rfl⟩ := ha
  rcases h with ⟨rfl, rfl⟩ | ⟨h0, b, _, rfl, hb⟩
  · exact (with_ok s n i0 i1 i2 i3 inm isz ao l.length c w).mono (by rintro r w' ⟨rfl, h⟩; exact ⟨rfl, h⟩)
  · refine (with_bad s n i0 i1 i2 i3 inm isz ao l.length c op nm e b w hb).mono ?_
    rintro r w' ⟨rfl, h⟩
    refine ⟨?_, h⟩
    unfold An.fail
    rw [if_neg h0]
    rfl
end Go.Proofs.YtjbphheojfclcaaGreat
