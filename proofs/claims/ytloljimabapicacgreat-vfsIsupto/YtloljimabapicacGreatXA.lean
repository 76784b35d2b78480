
-- errors.Is, is, and the calls on both volumes.
import Derived.Test.YtloljimabapicacGreatS2
import Derived.LaidEql
import Derived.Stop.Asserts
import Derived.RowKitTokens
import Derived.Lib.IfaceEq
import Derived.Deep.QuietTactic
import Derived.BigQuiet
import Derived.Test.YtloljimabapicacGreatS1
namespace Go.Proofs.YtloljimabapicacGreat
open Go.RowKit Go.Extern.Stop Go.Stop Go.Extern
set_option linter.unusedVariables false
theorem isTypeOf (v : Value) (w : World) : (Extern.ReflectliteType.typeOf #[.iface 67 v]).run Tryz.prog w = .ok (.iface 171 (.agg #[.pointer (some ⟨1, 67, none⟩)])) w := by kernel_rfl
/-- What the model does at (rtype).Comparable, by a name that the walk leaves alone. -/
def compX : Array Value → Sem Value := Extern.ReflectliteType.method fun t => do Go.Extern.Rtype.noPackHeld "Comparable" t; pure (.bool (← typeInfo t).comparable)
theorem isComparable (w : World) : (compX #[.agg #[.pointer (some ⟨1, 67, none⟩)]]).run Tryz.prog w = .ok (.bool true) w := by kernel_rfl
theorem isComp : (Tryz.prog.info? 67).map (·.comparable) = some true := by kernel_rfl
theorem noIsE (v : Value) (xT : TypeId) (w : World) : (Instr.typeAssert (.iface 67 v) xT 173 true).run Tryz.prog w = .ok (.tuple #[.nilIface, .bool false]) w := run_typeAssert_lacksB Tryz.underlying173 (by kernel_rfl) (by kernel_rfl) v xT w
theorem noUnwrapE (v : Value) (xT : TypeId) (w : World) : (Instr.typeAssert (.iface 67 v) xT 176 true).run Tryz.prog w = .ok (.tuple #[.nilIface, .bool false]) w := run_typeAssert_lacksB Tryz.underlying176 (by kernel_rfl) (by kernel_rfl) v xT w
theorem noUnwrapsE (v : Value) (xT : TypeId) (w : World) : (Instr.typeAssert (.iface 67 v) xT 177 true).run Tryz.prog w = .ok (.tuple #[.nilIface, .bool false]) w := run_typeAssert_lacksB Tryz.underlying177 (by kernel_rfl) (by kernel_rfl) v xT w
theorem noIsW (v : Value) (xT : TypeId) (w : World) : (Instr.typeAssert (.iface 80 v) xT 173 true).run Tryz.prog w = .ok (.tuple #[.nilIface, .bool false]) w := run_typeAssert_lacksB Tryz.underlying173 (by kernel_rfl) (by kernel_rfl) v xT w
theorem hasUnwrapW (v : Value) (xT : TypeId) (w : World) : (Instr.typeAssert (.iface 80 v) xT 176 true).run Tryz.prog w = .ok (.tuple #[.iface 80 v, .bool true]) w := run_typeAssert_hasB Tryz.underlying176 (by kernel_rfl) v xT w
set_option maxHeartbeats 4000000 in
theorem is_nil (k : Int) (w : World) : Calls Tryz.prog 35 #[.nilIface, .iface 67 (.int .i64 k)] w fun e w' => e = .returned (.bool false) ∧ w' = w := by
  have hn := run_eql_iface_nil_left (P := Tryz.prog) w 67 (.int .i64 k) Tryz.underlying36
  go_enter Tryz.func35, Tryz.ntmps35
  go_wp2
  go_ret
  exact ⟨rfl, rfl⟩
set_option maxRecDepth 100000 in
set_option maxHeartbeats 4000000 in
theorem is_fe (b : Nat) (n k : Int) (w : World) (c2 : w.cell? ⟨b, 2, none⟩ = some (.int .i64 n)) :
    Calls Tryz.prog 35 #[.iface 80 (.pointer (some ⟨b, 0, none⟩)), .iface 67 (.int .i64 k)] w fun e w' => e = .returned (.bool (n == k)) ∧ w' = w := by
  have h8 := @run_callFunc_extern Tryz.prog 68 _ Extern.ReflectliteType.typeOf Tryz.func68 (by kernel_rfl) (by kernel_rfl) (by kernel_rfl) (by kernel_rfl)
  have h32 := @run_callFunc_extern Tryz.prog 183 _ compX Tryz.func183 (by kernel_rfl) (by kernel_rfl) (by kernel_rfl) (by kernel_rfl)
  have tT := isTypeOf
  have cT := isComparable
  have nE := noIsE
  have uE := noUnwrapE
  have vE := noUnwrapsE
  have nW := noIsW
  have uW := hasUnwrapW
  have heq := Lib.run_eql_iface_int (P := Tryz.prog) (k := .i64) w n k Tryz.underlying36 isComp Tryz.underlying67
  have hty := run_eql_iface_types (P := Tryz.prog) 80 67 (.pointer (some ⟨b, 0, none⟩)) (.int .i64 k) Tryz.underlying36 (by decide) w
  cases hnk : (n == k)
  all_goals
    rw [hnk] at heq
    clear hnk
    go_enter Tryz.func35, Tryz.ntmps35
    go_wp2
    refine wp_loop_rounds 2 ?_
    rw [rounds_succ]
    go_wp2
    rw [rounds_succ]
    go_wp2
    go_ret
    exact ⟨rfl, rfl⟩
end Go.Proofs.YtloljimabapicacGreat
namespace Go.Proofs.YtloljimabapicacGreat
open Go.RowKit
set_option linter.unusedVariables false
theorem is_any (B : Nat) (op name : ByteArray) (e : Nat) (ev : Value) (w : World) (h : ErrIs w B op name e ev) (m k : Nat) (hk : 30 ≤ k) :
    Calls Tryz.prog 35 #[ev, .iface 67 (.int .i64 k)] (w.drewN m) fun r w' => r = .returned (.bool ((e : Int) == (k : Int))) ∧ w' = w.drewN m := by
  rcases h with ⟨rfl, rfl⟩ | ⟨h0, b, h1, rfl, h3⟩
  · have : (((0 : Nat) : Int) == (k : Int)) = false := by simp; omega
    rw [this]; exact is_nil _ _
  · refine is_fe b e k _ ?_
    have : (w.drewN m).heap[b]? = some (.cells #[.string op, .string name, .int .i64 e] 83 (0, 0)) := by rw [(drewN_eq w m).1]; exact h3
    rw [Lib.cell_of_heap this]; rfl
set_option maxHeartbeats 4000000 in
theorem is_c (B : Nat) (op name : ByteArray) (e : Nat) (ev : Value) (w : World) (h : ErrIs w B op name e ev) :
    Calls Tryz.prog 20 #[ev, .int .i64 e] w fun r w' => r = .returned (.bool true) ∧ Alike w w' := by
  have HIS : Hid (∀ m k : Nat, 30 ≤ k → Calls Tryz.prog 35 #[ev, .iface 67 (.int .i64 k)] (w.drewN m) fun r w' => r = .returned (.bool ((e : Int) == (k : Int))) ∧ w' = w.drewN m) := fun m k hk => is_any B op name e ev w h m k hk
  clear h
  go_enter Tryz.func20, Tryz.ntmps20
  go_wp2_with fail
  go_loopw [5] (fun i wr => ∃ k : Nat, i = .int .i64 k ∧ 30 ≤ k ∧ k ≤ 43 ∧ ∃ m, wr = w.drewN m) (fun i _ => 43 - (intOf i).toNat)
  case atStart => exact ⟨30, rfl, by omega, by omega, 0, rfl⟩
  case round =>
    obtain ⟨k, rfl, h30, hk43, m, rfl⟩ := hrel
    by_cases hk : k < 43
    · have b1 : decide ((k : Int) < 43) = true := decide_eq_true (by omega)
      have HK : Hid (∀ n, Calls Tryz.prog 35 #[ev, .iface 67 (.int .i64 k)] (w.drewN n) fun r w' => r = .returned (.bool ((e : Int) == (k : Int))) ∧ w' = w.drewN n) := fun n => HIS.out n k h30
      have hcomm : ((e : Int) == (k : Int)) = ((k : Int) == (e : Int)) := Bool.beq_comm
      rw [hcomm] at HK
      clear hcomm
      cases hb : ((k : Int) == (e : Int))
      all_goals
        rw [hb] at HK
        go_wp2_with (go_at_call 35; refine (HK.out _).mono ?_; rintro r w2 ⟨rfl, hw2⟩; subst w2)
        exact ⟨⟨k + 1, rfl, by omega, by omega, m, rfl⟩, by simp [intOf]; omega⟩
    · obtain rfl : k = 43 := by omega
      have b1 : decide (((43 : Nat) : Int) < 43) = false := by decide
      have HA : Hid (Alike w (w.drewN m)) := Alike.drewN w m
      go_wp2
      go_ret
      exact ⟨rfl, HA.out⟩
end Go.Proofs.YtloljimabapicacGreat
namespace Go.Proofs.YtloljimabapicacGreat
open Go.RowKit
set_option linter.unusedVariables false
variable {PS : (Nat → Prop) → Nat → St → World → Prop}
set_option maxHeartbeats 4000000 in
theorem two_read (C : PC PS) (B pb k : Nat) (X : Obj) (a b : ByteArray) (w : World) (h : Bx PS B pb k w) (hB : B ≤ w.heap.size) (hk : k < 2097151) :
    ∃ (q r E : Nat) (S : ByteArray) (M1 M2 : World → Value → Prop), (w.alloc X).cell? ⟨pb, 0, none⟩ = some (.pointer (some ⟨q, 0, none⟩)) ∧
      (∀ W, Alike (w.alloc X) W → Calls Tryz.prog 14 #[.pointer (some ⟨q, 0, none⟩), .string a] W fun e w' => ∃ ev, e = .returned (.tuple #[.string S, ev]) ∧ M1 w' ev) ∧
      (∀ w1 ev, M1 w1 ev → w1.cell? ⟨pb, 1, none⟩ = some (.pointer (some ⟨r, 0, none⟩)) ∧ w1.heap[w.heap.size]? = some X) ∧
      (∀ w1 ev, M1 w1 ev → ∀ W, Alike w1 W → Calls Tryz.prog 15 #[.pointer (some ⟨r, 0, none⟩), .string a] W fun e w' => e = .returned (.tuple #[.string S, .int .i64 E]) ∧ M2 w' ev) ∧
      (∀ w2 ev, M2 w2 ev → ∀ W, Alike w2 W → Calls Tryz.prog 20 #[ev, .int .i64 E] W fun e w' => e = .returned (.bool true) ∧ Bx PS B pb (k + 1) w' ∧ Below B w w') := by
  obtain ⟨q, r, mv, dv, Gp, Gr, v, hs, hd, T, hh, hv, hl⟩ := h
  have hbA : Below w.heap.size w (w.alloc X) := (Below.refl _ w).alloc (Nat.le_refl _) _
  have hsA : (w.alloc X).heap.size = w.heap.size + 1 := by simp
  have TA := T.below C hbA hB
  have hcn : v.cnt ≤ 4194304 := by have := hv.cnt; omega
  have hgl : ∀ k, Gr k → k < w.heap.size + 1 := fun k h => by have := T.rr.low k h; omega
  obtain ⟨S, hS⟩ : ∃ x, x = (v.read a).1.1 := ⟨_, rfl⟩
  obtain ⟨E, hE⟩ : ∃ x, x = (v.read a).1.2 := ⟨_, rfl⟩
  obtain ⟨V, hV⟩ : ∃ x, x = (v.read a).2 := ⟨_, rfl⟩
  have HP : Hid (∀ W, Alike (w.alloc X) W → Calls Tryz.prog 14 #[.pointer (some ⟨q, 0, none⟩), .string a] W fun e w' => ∃ ev, e = .returned (.tuple #[.string S, ev]) ∧ PB PS B pb q r mv dv (ext Gp W w') Gr V v hs hd w' ∧ Below B w w' ∧ w.heap.size + 1 ≤ w'.heap.size ∧ ErrIs w' (w.heap.size + 1) ⟨#[114, 101, 97, 100]⟩ a E ev ∧ w'.heap[w.heap.size]? = some X) := fun W hA => by
    have TW := TA.below C hA.below (by omega)
    have hsW : W.heap.size = w.heap.size + 1 := by rw [hA.heap]; exact hsA
    have hbW := hbA.trans (hA.below.mono (by omega))
    refine (fRead_c C Gp q v a W TW.pp hv.wf hcn).mono ?_
    rintro e w' ⟨ev, rfl, he, hd'⟩
    obtain ⟨t, hb⟩ := TW.pdid (by omega) hd'
    have hs' := hd'.2.size
    rw [← hV] at t
    rw [← hE, hsW] at he
    refine ⟨ev, by rw [hS], t, (hbW.mono hB).trans hb, by omega, he, ?_⟩
    rw [hd'.2.block w.heap.size (by omega) (T.out (Nat.le_refl _)).1, hA.heap, heap_alloc_new]
  have HR : Hid (∀ G' wx, PB PS B pb q r mv dv G' Gr V v hs hd wx → B ≤ wx.heap.size → w.heap.size + 1 ≤ wx.heap.size → wx.heap[w.heap.size]? = some X → ∀ W, Alike wx W → Calls Tryz.prog 15 #[.pointer (some ⟨r, 0, none⟩), .string a] W fun e w' => e = .returned (.tuple #[.string S, .int .i64 E]) ∧ PB PS B pb q r mv dv G' (ext Gr W w') V V hs hd w' ∧ Below B wx w' ∧ w'.heap[w.heap.size]? = some X ∧ (∀ ev, ErrIs wx (w.heap.size + 1) ⟨#[114, 101, 97, 100]⟩ a E ev → ErrIs w' (w.heap.size + 1) ⟨#[114, 101, 97, 100]⟩ a E ev) ∧ w.heap.size + 1 ≤ w'.heap.size) := fun G' wx t0 hBx hlx hx W hA => by
    have t := t0.below C hA.below hBx
    have hsW : W.heap.size = wx.heap.size := by rw [hA.heap]
    refine (rRead_c Gr r v a W t.rr hv.wf hcn).mono ?_
    rintro e w' ⟨rfl, hd'⟩
    obtain ⟨t', hb⟩ := t.rdid C (by omega) hd'
    have hs' := hd'.2.size
    rw [← hV] at t'
    refine ⟨by rw [hS, hE], t', (hA.below.mono hBx).trans hb, (hd'.2.block _ (by omega) (fun h' => by have := T.rr.low _ h'; omega)).trans (by rw [hA.heap]; exact hx), fun ev he => (he.below hA.below).kept hd'.2 hgl, by omega⟩
  have HEnd : Hid (∀ G' G'' W W', PB PS B pb q r mv dv G' G'' V V hs hd W → B ≤ W.heap.size → Below W.heap.size W W' → Bx PS B pb (k + 1) W') := fun G' G'' W W' t hBx hA => ⟨q, r, mv, dv, G', G'', V, hs, hd, t.below C hA hBx, hh, by rw [hV]; exact hv.read a, by omega⟩
  refine ⟨q, r, E, S, fun w' ev => (∃ G', PB PS B pb q r mv dv G' Gr V v hs hd w') ∧ Below B w w' ∧ w.heap.size + 1 ≤ w'.heap.size ∧ ErrIs w' (w.heap.size + 1) ⟨#[114, 101, 97, 100]⟩ a E ev ∧ w'.heap[w.heap.size]? = some X, fun w' ev => (∃ G' G'', PB PS B pb q r mv dv G' G'' V V hs hd w') ∧ Below B w w' ∧ B ≤ w'.heap.size ∧ ErrIs w' (w.heap.size + 1) ⟨#[114, 101, 97, 100]⟩ a E ev, TA.cells.1, ?_, ?_, ?_, ?_⟩
  · intro W hA
    refine (HP.out W hA).mono ?_
    rintro e w' ⟨ev, rfl, h1, h2⟩
    exact ⟨ev, rfl, ⟨_, h1⟩, h2⟩
  · rintro w1 ev ⟨⟨G', t⟩, h1, h2, h3, h4⟩
    exact ⟨t.cells.2.1, h4⟩
  · rintro w1 ev ⟨⟨G', t⟩, h1, h2, h3, h4⟩ W hA
    refine (HR.out G' w1 t (by omega) h2 h4 W hA).mono ?_
    rintro e w' ⟨rfl, t2, hb2, hx2, he2, hl2⟩
    exact ⟨rfl, ⟨_, _, t2⟩, h1.trans hb2, by omega, he2 ev h3⟩
  · rintro w2 ev ⟨⟨G', G'', t⟩, h1, h2, h3⟩ W hA
    have hb := hA.below
    refine (is_c _ _ _ _ _ W (h3.below hb)).mono ?_
    rintro e w' ⟨rfl, hA2⟩
    have hb2 := hb.trans (hA2.below.mono hb.size)
    exact ⟨rfl, HEnd.out _ _ w2 w' t h2 hb2, h1.trans (hb2.mono h2)⟩
set_option maxHeartbeats 4000000 in
theorem two_rename (C : PC PS) (B pb k : Nat) (X : Obj) (a b : ByteArray) (w : World) (h : Bx PS B pb k w) (hB : B ≤ w.heap.size) (hk : k < 2097151) :
    ∃ (q r E : Nat) (M1 M2 : World → Value → Prop), (w.alloc X).cell? ⟨pb, 0, none⟩ = some (.pointer (some ⟨q, 0, none⟩)) ∧
      (∀ W, Alike (w.alloc X) W → Calls Tryz.prog 16 #[.pointer (some ⟨q, 0, none⟩), .string a, .string b] W fun e w' => ∃ ev, e = .returned (ev) ∧ M1 w' ev) ∧
      (∀ w1 ev, M1 w1 ev → w1.cell? ⟨pb, 1, none⟩ = some (.pointer (some ⟨r, 0, none⟩)) ∧ w1.heap[w.heap.size]? = some X) ∧
      (∀ w1 ev, M1 w1 ev → ∀ W, Alike w1 W → Calls Tryz.prog 17 #[.pointer (some ⟨r, 0, none⟩), .string a, .string b] W fun e w' => e = .returned (.int .i64 E) ∧ M2 w' ev) ∧
      (∀ w2 ev, M2 w2 ev → ∀ W, Alike w2 W → Calls Tryz.prog 20 #[ev, .int .i64 E] W fun e w' => e = .returned (.bool true) ∧ Bx PS B pb (k + 1) w' ∧ Below B w w') := by
  obtain ⟨q, r, mv, dv, Gp, Gr, v, hs, hd, T, hh, hv, hl⟩ := h
  have hbA : Below w.heap.size w (w.alloc X) := (Below.refl _ w).alloc (Nat.le_refl _) _
  have hsA : (w.alloc X).heap.size = w.heap.size + 1 := by simp
  have TA := T.below C hbA hB
  have hcn : v.cnt ≤ 4194304 := by have := hv.cnt; omega
  have hgl : ∀ k, Gr k → k < w.heap.size + 1 := fun k h => by have := T.rr.low k h; omega
  obtain ⟨E, hE⟩ : ∃ x, x = (v.rename a b).1 := ⟨_, rfl⟩
  obtain ⟨V, hV⟩ : ∃ x, x = (v.rename a b).2 := ⟨_, rfl⟩
  have HP : Hid (∀ W, Alike (w.alloc X) W → Calls Tryz.prog 16 #[.pointer (some ⟨q, 0, none⟩), .string a, .string b] W fun e w' => ∃ ev, e = .returned (ev) ∧ PB PS B pb q r mv dv (ext Gp W w') Gr V v hs hd w' ∧ Below B w w' ∧ w.heap.size + 1 ≤ w'.heap.size ∧ ErrIs w' (w.heap.size + 1) ⟨#[114, 101, 110, 97, 109, 101]⟩ a E ev ∧ w'.heap[w.heap.size]? = some X) := fun W hA => by
    have TW := TA.below C hA.below (by omega)
    have hsW : W.heap.size = w.heap.size + 1 := by rw [hA.heap]; exact hsA
    have hbW := hbA.trans (hA.below.mono (by omega))
    refine (fRename_c C Gp q v a b W TW.pp hv.wf hcn).mono ?_
    rintro e w' ⟨ev, rfl, he, hd'⟩
    obtain ⟨t, hb⟩ := TW.pdid (by omega) hd'
    have hs' := hd'.2.size
    rw [← hV] at t
    rw [← hE, hsW] at he
    refine ⟨ev, rfl, t, (hbW.mono hB).trans hb, by omega, he, ?_⟩
    rw [hd'.2.block w.heap.size (by omega) (T.out (Nat.le_refl _)).1, hA.heap, heap_alloc_new]
  have HR : Hid (∀ G' wx, PB PS B pb q r mv dv G' Gr V v hs hd wx → B ≤ wx.heap.size → w.heap.size + 1 ≤ wx.heap.size → wx.heap[w.heap.size]? = some X → ∀ W, Alike wx W → Calls Tryz.prog 17 #[.pointer (some ⟨r, 0, none⟩), .string a, .string b] W fun e w' => e = .returned (.int .i64 E) ∧ PB PS B pb q r mv dv G' (ext Gr W w') V V hs hd w' ∧ Below B wx w' ∧ w'.heap[w.heap.size]? = some X ∧ (∀ ev, ErrIs wx (w.heap.size + 1) ⟨#[114, 101, 110, 97, 109, 101]⟩ a E ev → ErrIs w' (w.heap.size + 1) ⟨#[114, 101, 110, 97, 109, 101]⟩ a E ev) ∧ w.heap.size + 1 ≤ w'.heap.size) := fun G' wx t0 hBx hlx hx W hA => by
    have t := t0.below C hA.below hBx
    have hsW : W.heap.size = wx.heap.size := by rw [hA.heap]
    refine (rRename_c Gr r v a b W t.rr hv.wf hcn).mono ?_
    rintro e w' ⟨rfl, hd'⟩
    obtain ⟨t', hb⟩ := t.rdid C (by omega) hd'
    have hs' := hd'.2.size
    rw [← hV] at t'
    refine ⟨by rw [hE], t', (hA.below.mono hBx).trans hb, (hd'.2.block _ (by omega) (fun h' => by have := T.rr.low _ h'; omega)).trans (by rw [hA.heap]; exact hx), fun ev he => (he.below hA.below).kept hd'.2 hgl, by omega⟩
  have HEnd : Hid (∀ G' G'' W W', PB PS B pb q r mv dv G' G'' V V hs hd W → B ≤ W.heap.size → Below W.heap.size W W' → Bx PS B pb (k + 1) W') := fun G' G'' W W' t hBx hA => ⟨q, r, mv, dv, G', G'', V, hs, hd, t.below C hA hBx, hh, by rw [hV]; exact hv.rename hk a b, by omega⟩
  refine ⟨q, r, E, fun w' ev => (∃ G', PB PS B pb q r mv dv G' Gr V v hs hd w') ∧ Below B w w' ∧ w.heap.size + 1 ≤ w'.heap.size ∧ ErrIs w' (w.heap.size + 1) ⟨#[114, 101, 110, 97, 109, 101]⟩ a E ev ∧ w'.heap[w.heap.size]? = some X, fun w' ev => (∃ G' G'', PB PS B pb q r mv dv G' G'' V V hs hd w') ∧ Below B w w' ∧ B ≤ w'.heap.size ∧ ErrIs w' (w.heap.size + 1) ⟨#[114, 101, 110, 97, 109, 101]⟩ a E ev, TA.cells.1, ?_, ?_, ?_, ?_⟩
  · intro W hA
    refine (HP.out W hA).mono ?_
    rintro e w' ⟨ev, rfl, h1, h2⟩
    exact ⟨ev, rfl, ⟨_, h1⟩, h2⟩
  · rintro w1 ev ⟨⟨G', t⟩, h1, h2, h3, h4⟩
    exact ⟨t.cells.2.1, h4⟩
  · rintro w1 ev ⟨⟨G', t⟩, h1, h2, h3, h4⟩ W hA
    refine (HR.out G' w1 t (by omega) h2 h4 W hA).mono ?_
    rintro e w' ⟨rfl, t2, hb2, hx2, he2, hl2⟩
    exact ⟨rfl, ⟨_, _, t2⟩, h1.trans hb2, by omega, he2 ev h3⟩
  · rintro w2 ev ⟨⟨G', G'', t⟩, h1, h2, h3⟩ W hA
    have hb := hA.below
    refine (is_c _ _ _ _ _ W (h3.below hb)).mono ?_
    rintro e w' ⟨rfl, hA2⟩
    have hb2 := hb.trans (hA2.below.mono hb.size)
    exact ⟨rfl, HEnd.out _ _ w2 w' t h2 hb2, h1.trans (hb2.mono h2)⟩
set_option maxHeartbeats 4000000 in
theorem two_remove (C : PC PS) (B pb k : Nat) (X : Obj) (a b : ByteArray) (w : World) (h : Bx PS B pb k w) (hB : B ≤ w.heap.size) (hk : k < 2097151) :
    ∃ (q r E : Nat) (M1 M2 : World → Value → Prop), (w.alloc X).cell? ⟨pb, 0, none⟩ = some (.pointer (some ⟨q, 0, none⟩)) ∧
      (∀ W, Alike (w.alloc X) W → Calls Tryz.prog 18 #[.pointer (some ⟨q, 0, none⟩), .string a] W fun e w' => ∃ ev, e = .returned (ev) ∧ M1 w' ev) ∧
      (∀ w1 ev, M1 w1 ev → w1.cell? ⟨pb, 1, none⟩ = some (.pointer (some ⟨r, 0, none⟩)) ∧ w1.heap[w.heap.size]? = some X) ∧
      (∀ w1 ev, M1 w1 ev → ∀ W, Alike w1 W → Calls Tryz.prog 19 #[.pointer (some ⟨r, 0, none⟩), .string a] W fun e w' => e = .returned (.int .i64 E) ∧ M2 w' ev) ∧
      (∀ w2 ev, M2 w2 ev → ∀ W, Alike w2 W → Calls Tryz.prog 20 #[ev, .int .i64 E] W fun e w' => e = .returned (.bool true) ∧ Bx PS B pb (k + 1) w' ∧ Below B w w') := by
  obtain ⟨q, r, mv, dv, Gp, Gr, v, hs, hd, T, hh, hv, hl⟩ := h
  have hbA : Below w.heap.size w (w.alloc X) := (Below.refl _ w).alloc (Nat.le_refl _) _
  have hsA : (w.alloc X).heap.size = w.heap.size + 1 := by simp
  have TA := T.below C hbA hB
  have hcn : v.cnt ≤ 4194304 := by have := hv.cnt; omega
  have hgl : ∀ k, Gr k → k < w.heap.size + 1 := fun k h => by have := T.rr.low k h; omega
  obtain ⟨E, hE⟩ : ∃ x, x = (v.remove a).1 := ⟨_, rfl⟩
  obtain ⟨V, hV⟩ : ∃ x, x = (v.remove a).2 := ⟨_, rfl⟩
  have HP : Hid (∀ W, Alike (w.alloc X) W → Calls Tryz.prog 18 #[.pointer (some ⟨q, 0, none⟩), .string a] W fun e w' => ∃ ev, e = .returned (ev) ∧ PB PS B pb q r mv dv (ext Gp W w') Gr V v hs hd w' ∧ Below B w w' ∧ w.heap.size + 1 ≤ w'.heap.size ∧ ErrIs w' (w.heap.size + 1) ⟨#[114, 101, 109, 111, 118, 101]⟩ a E ev ∧ w'.heap[w.heap.size]? = some X) := fun W hA => by
    have TW := TA.below C hA.below (by omega)
    have hsW : W.heap.size = w.heap.size + 1 := by rw [hA.heap]; exact hsA
    have hbW := hbA.trans (hA.below.mono (by omega))
    refine (fRemove_c C Gp q v a W TW.pp hv.wf hcn).mono ?_
    rintro e w' ⟨ev, rfl, he, hd'⟩
    obtain ⟨t, hb⟩ := TW.pdid (by omega) hd'
    have hs' := hd'.2.size
    rw [← hV] at t
    rw [← hE, hsW] at he
    refine ⟨ev, rfl, t, (hbW.mono hB).trans hb, by omega, he, ?_⟩
    rw [hd'.2.block w.heap.size (by omega) (T.out (Nat.le_refl _)).1, hA.heap, heap_alloc_new]
  have HR : Hid (∀ G' wx, PB PS B pb q r mv dv G' Gr V v hs hd wx → B ≤ wx.heap.size → w.heap.size + 1 ≤ wx.heap.size → wx.heap[w.heap.size]? = some X → ∀ W, Alike wx W → Calls Tryz.prog 19 #[.pointer (some ⟨r, 0, none⟩), .string a] W fun e w' => e = .returned (.int .i64 E) ∧ PB PS B pb q r mv dv G' (ext Gr W w') V V hs hd w' ∧ Below B wx w' ∧ w'.heap[w.heap.size]? = some X ∧ (∀ ev, ErrIs wx (w.heap.size + 1) ⟨#[114, 101, 109, 111, 118, 101]⟩ a E ev → ErrIs w' (w.heap.size + 1) ⟨#[114, 101, 109, 111, 118, 101]⟩ a E ev) ∧ w.heap.size + 1 ≤ w'.heap.size) := fun G' wx t0 hBx hlx hx W hA => by
    have t := t0.below C hA.below hBx
    have hsW : W.heap.size = wx.heap.size := by rw [hA.heap]
    refine (rRemove_c Gr r v a W t.rr hv.wf hcn).mono ?_
    rintro e w' ⟨rfl, hd'⟩
    obtain ⟨t', hb⟩ := t.rdid C (by omega) hd'
    have hs' := hd'.2.size
    rw [← hV] at t'
    refine ⟨by rw [hE], t', (hA.below.mono hBx).trans hb, (hd'.2.block _ (by omega) (fun h' => by have := T.rr.low _ h'; omega)).trans (by rw [hA.heap]; exact hx), fun ev he => (he.below hA.below).kept hd'.2 hgl, by omega⟩
  have HEnd : Hid (∀ G' G'' W W', PB PS B pb q r mv dv G' G'' V V hs hd W → B ≤ W.heap.size → Below W.heap.size W W' → Bx PS B pb (k + 1) W') := fun G' G'' W W' t hBx hA => ⟨q, r, mv, dv, G', G'', V, hs, hd, t.below C hA hBx, hh, by rw [hV]; exact hv.remove hk a, by omega⟩
  refine ⟨q, r, E, fun w' ev => (∃ G', PB PS B pb q r mv dv G' Gr V v hs hd w') ∧ Below B w w' ∧ w.heap.size + 1 ≤ w'.heap.size ∧ ErrIs w' (w.heap.size + 1) ⟨#[114, 101, 109, 111, 118, 101]⟩ a E ev ∧ w'.heap[w.heap.size]? = some X, fun w' ev => (∃ G' G'', PB PS B pb q r mv dv G' G'' V V hs hd w') ∧ Below B w w' ∧ B ≤ w'.heap.size ∧ ErrIs w' (w.heap.size + 1) ⟨#[114, 101, 109, 111, 118, 101]⟩ a E ev, TA.cells.1, ?_, ?_, ?_, ?_⟩
  · intro W hA
    refine (HP.out W hA).mono ?_
    rintro e w' ⟨ev, rfl, h1, h2⟩
    exact ⟨ev, rfl, ⟨_, h1⟩, h2⟩
  · rintro w1 ev ⟨⟨G', t⟩, h1, h2, h3, h4⟩
    exact ⟨t.cells.2.1, h4⟩
  · rintro w1 ev ⟨⟨G', t⟩, h1, h2, h3, h4⟩ W hA
    refine (HR.out G' w1 t (by omega) h2 h4 W hA).mono ?_
    rintro e w' ⟨rfl, t2, hb2, hx2, he2, hl2⟩
    exact ⟨rfl, ⟨_, _, t2⟩, h1.trans hb2, by omega, he2 ev h3⟩
  · rintro w2 ev ⟨⟨G', G'', t⟩, h1, h2, h3⟩ W hA
    have hb := hA.below
    refine (is_c _ _ _ _ _ W (h3.below hb)).mono ?_
    rintro e w' ⟨rfl, hA2⟩
    have hb2 := hb.trans (hA2.below.mono hb.size)
    exact ⟨rfl, HEnd.out _ _ w2 w' t h2 hb2, h1.trans (hb2.mono h2)⟩
end Go.Proofs.YtloljimabapicacGreat
