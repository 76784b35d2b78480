
-- strings.Lines: the iterator over a text's lines (2).
import Derived.Test.YtdamhdceajmdfaaDoorLI
import Derived.Test.YtdamhdceajmdfaaDoorLP
import Derived.Shelf.RegionOpen
namespace Go.Proofs.YtdamhdceajmdfaaDoor
open Go.RowKit Go.Shelf Go.ChangeShapes Go.WideShapes Go.ChangeAt Go.MapKept
set_option linter.unusedVariables false
set_option maxRecDepth 100000
set_option linter.unusedSimpArgs false
attribute [local go_sem] Oper.semAt_some
def Kb (q : Nat) (W W' : World) : Prop := ∀ o, W.heap[q]? = some o → W'.heap[q]? = some o
def encS (x : List UInt8) : Array Value := #[.string (byB x)]
def qlen (q : Nat) (W : World) : Nat := match W.cell? ⟨q, 0, none⟩ with | some (.string r) => r.size | _ => 0
theorem qlen_row {q : Nat} {W : World} {r : ByteArray} (h : W.heap[q]? = some (.cells #[.string r] 9 (0, 0))) : qlen q W = r.size := by
  unfold qlen
  rw [cell_rowK h 0 (.string r) rfl]
theorem ab_set (q : Nat) (W : World) (v : Value) : Ab q W (W.setCell ⟨q, 0, none⟩ v) := by
  have k := kq_set W q 0 v
  exact ⟨k.os, k.tape, k.output, k.size, fun j hj hq => k.block j hq hj⟩
theorem ab_drew {q : Nat} {W W' : World} (h : Ab q W W') : Ab q W W'.drew := ⟨h.os, h.tape, h.output, h.size, h.block⟩
def OkL (s : ByteArray) (pre : List (List UInt8)) (x : List UInt8) : Prop := ∃ rest, pre ++ x :: rest = rawL (byL s)
theorem sliceTo (r : ByteArray) (k : Nat) (hk : k < r.size) : ∀ W, (Instr.slice 9 (.string r) none (some (.int .i64 ((k : Int) + 1))) none).run Tryd.prog W = .ok (.string (byB ((byL r).take (k + 1)))) W := by
  intro W
  have h1 : (0 : Int) ≤ (k : Int) + 1 := by omega
  have h2 : (k : Int) + 1 ≤ (r.size : Int) := by omega
  have e : byB ((byL r).take (k + 1)) = r.extract 0 (k + 1) := by
    apply byL_inj; rw [byL_byB]; unfold byL; simp
  rw [e]
  simp [go_sem, Tryd.underlying9, h1, h2]
  try omega
theorem sliceFrom (r : ByteArray) (k : Nat) (hk : k < r.size) : ∀ W, (Instr.slice 9 (.string r) (some (.int .i64 ((k : Int) + 1))) none none).run Tryd.prog W = .ok (.string (byB ((byL r).drop (k + 1)))) W := by
  intro W
  have h1 : (0 : Int) ≤ (k : Int) + 1 := by omega
  have h2 : (k : Int) + 1 ≤ (r.size : Int) := by omega
  have e : byB ((byL r).drop (k + 1)) = r.extract (k + 1) r.size := by
    apply byL_inj; rw [byL_byB]; unfold byL; simp
    rw [List.take_of_length_le (by rw [List.length_drop]; simp)]
  rw [e]
  simp [go_sem, Tryd.underlying9, h1, h2]
  try omega
set_option maxHeartbeats 4000000 in
theorem lines1_in (n l q : Nat) (s : ByteArray) (J Jx : List (List UInt8) → World → Prop) (W0 : World)
    (hJ : ∀ s A C, J s A → Ab q A C → J s C) (hJx : ∀ s A C, Jx s A → Ab q A C → Jx s C)
    (hY : ∀ pre x W1, J pre W1 → OkL s pre x → YieldAt Fence.wide (n - 1) Tryd.prog l (encS x) W1 fun e W' =>
      (e = .returned (.bool true) ∧ J (pre ++ [x]) W' ∧ Kb q W1 W') ∨ (e = .returned (.bool false) ∧ Jx (pre ++ [x]) W'))
    (hq : W0.heap[q]? = some (.cells #[.string s] 9 (0, 0))) (hs : s.size ≤ 16777216) (h0 : J [] W0) :
    CallsIn Fence.wide n Tryd.prog 49 #[.func (.yield l) #[] #[], .pointer (some ⟨q, 0, none⟩)] W0 fun e W' => (∃ v, e = .returned v) ∧
      ((∃ ys, ys = rawL (byL s) ∧ J ys W') ∨ (∃ pre, True ∧ Jx pre W')) := by
  have HX : Hid (∀ (r : ByteArray) (w : World), CallsIn Fence.wide (n - 1) Tryd.prog 50 #[.string r, .int .u8 10] w fun e w' => e = .returned (.int .i64 (Lib.indexByte (byL r) 10)) ∧ w' = w) := fun r w => callsIn_wide.2 (Tryd.strings_IndexByte r 10 w)
  refine callsIn_of_wp Tryd.func49 rfl trivial ?_ rfl
  simp only [Tryd.ntmps49, List.size_toArray, List.length_cons, List.length_nil, Nat.reduceAdd, Nat.reduceSub, Array.replicate_succ, Array.replicate_zero, List.push_toArray, List.append_toArray, List.nil_append, List.cons_append]
  gi_wp2
  gi_loopw [] (fun wr => ∃ (pre : List (List UInt8)) (r : ByteArray), wr.heap[q]? = some (.cells #[.string r] 9 (0, 0)) ∧ J pre wr ∧ pre ++ rawL (byL r) = rawL (byL s) ∧ pre.length + r.size ≤ s.size) (fun wr => qlen q wr)
  case atStart => exact ⟨[], s, hq, h0, rfl, by simp⟩
  case round =>
    obtain ⟨pre, r, hrow, hj, hG, hlen⟩ := hrel
    have c0 := cell_rowK hrow 0 (.string r) rfl
    have HJ := hidK hj
    have HG := hidK hG
    have HR := hidK hrow
    clear hG hj h0 hq
    by_cases hp : 0 < r.size
    · have d1 : decide (0 < r.size) = true := decide_eq_true hp
      have dI : (0 : Int) < (r.size : Int) := by omega
      have hge := Lib.indexByte_ge (byL r) 10
      by_cases hm : Lib.indexByte (byL r) 10 = -1
      · have hne : byL r ≠ [] := fun e => by have := byL_size r; rw [e] at this; simp at this; omega
        have hrw := raw_none hm hne
        have HX1 := hidK (HX.out r)
        rw [hm] at HX1
        obtain ⟨W1, hW1⟩ : ∃ W1, W1 = wr.setCell ⟨q, 0, none⟩ (.string ⟨#[]⟩) := ⟨_, rfl⟩
        have R1 : Hid (W1.heap[q]? = some (.cells #[.string ⟨#[]⟩] 9 (0, 0))) := by rw [hW1]; exact blk_set HR.out _
        have hyy := hY pre (byL r) W1 (hJ _ _ _ HJ.out (by rw [hW1]; exact ab_set _ _ _)) ⟨[], by rw [← HG.out, hrw]⟩
        unfold encS at hyy
        rw [byB_byL] at hyy
        obtain ⟨fn', tmps, assign, body, hy, hRd⟩ := hyy
        have HF : Hid (pre ++ [byL r] = rawL (byL s)) := by rw [hrw] at HG; exact HG.out
        have f5 := Lib.frozen_of_heap HR.out 0
        have HQ : Hid (qlen q wr = r.size) := qlen_row HR.out
        rw [hW1] at hy hRd
        clear hY hm hne hrw HG HX hge
        gi_wp2_with (refine ⟨trivial, fun h => (by cases h), ?_⟩; gi_at_call 50; refine (HX1.out _).mono ?_; rintro e' w2 ⟨rfl, h2⟩; rw [h2]; clear h2)
        rw [hW1] at R1
        clear hW1
        refine ⟨fun h => (by cases h), hRd.mono ?_⟩
        rintro e' W3 (⟨rfl, hJ3, hk3⟩ | ⟨rfl, hJx3⟩)
        · gi_wp2
          go_roundw
          case rel => exact ⟨_, ⟨#[]⟩, hk3 _ R1.out, hJ3, by have := HF.out; show _ ++ [] = _; rw [List.append_nil]; exact this, by rw [List.length_append]; show pre.length + 1 + 0 ≤ _; omega⟩
          case measure => rw [HQ.out, qlen_row (hk3 _ R1.out)]; exact hp
        · gi_wp2
          refine bodyPost_ret (results_none rfl _ _ _) rfl ?_
          exact ⟨⟨_, rfl⟩, .inr ⟨_, trivial, hJx3⟩⟩
      · obtain ⟨k, hk⟩ : ∃ k : Nat, Lib.indexByte (byL r) 10 = (k : Nat) := ⟨(Lib.indexByte (byL r) 10).toNat, by omega⟩
        obtain ⟨hrw, hkl⟩ := raw_found hk
        rw [byL_size] at hkl
        have HX1 := hidK (HX.out r)
        rw [hk] at HX1
        have hs1 := sliceTo r k hkl
        have hs2 := sliceFrom r k hkl
        obtain ⟨x, hx⟩ : ∃ x, x = (byL r).take (k + 1) := ⟨_, rfl⟩
        obtain ⟨r2, hr2⟩ : ∃ r2, r2 = byB ((byL r).drop (k + 1)) := ⟨_, rfl⟩
        have hr2s : r2.size = r.size - (k + 1) := by rw [hr2, byB_size, List.length_drop, byL_size]
        have HF : Hid ((pre ++ [x]) ++ rawL (byL r2) = rawL (byL s)) := by
          show _ = _
          rw [← HG.out, hrw, hr2, byL_byB, hx, List.append_assoc]; rfl
        rw [← hr2] at hs2
        rw [← hx] at hs1
        obtain ⟨W1, hW1⟩ : ∃ W1, W1 = (wr.setCell ⟨q, 0, none⟩ (.string r2)).drew := ⟨_, rfl⟩
        have R1 : Hid (W1.heap[q]? = some (.cells #[.string r2] 9 (0, 0))) := by rw [hW1]; exact blk_set HR.out _
        have hyy := hY pre x W1 (hJ _ _ _ HJ.out (by rw [hW1]; exact ab_drew (ab_set _ _ _))) ⟨rawL (byL r2), by have := HF.out; rw [List.append_assoc] at this; exact this⟩
        unfold encS at hyy
        obtain ⟨xb, hxb⟩ : ∃ xb, xb = byB x := ⟨_, rfl⟩
        rw [← hxb] at hyy hs1
        obtain ⟨fn', tmps, assign, body, hy, hRd⟩ := hyy
        have f5 := Lib.frozen_of_heap HR.out 0
        have HQ : Hid (qlen q wr = r.size) := qlen_row HR.out
        have k0 : (0 : Int) ≤ (k : Int) := by omega
        have kw : IntKind.i64.wrap ((k : Int) + 1) = (k : Int) + 1 := by rw [IntKind.wrap_i64]; omega
        clear hY hm hrw HG HX hge hk hx hr2 hxb
        gi_wp2_with (refine ⟨trivial, fun h => (by cases h), ?_⟩; gi_at_call 50; refine (HX1.out _).mono ?_; rintro e' w2 ⟨rfl, h2⟩; rw [h2]; clear h2)
        have hfo : Tryd.prog.follows Departure.mixedOrders = true := by kernel_rfl
        rw [hW1] at hy hRd
        have HR1 : Hid ((wr.setCell ⟨q, 0, none⟩ (.string r2)).drew.heap[q]? = some (.cells #[.string r2] 9 (0, 0))) := by rw [← hW1]; exact R1.out
        clear hW1 R1
        gi_region_with_o (fail)
        all_goals gi_wp2
        all_goals
          refine ⟨fun h => (by cases h), hRd.mono ?_⟩
          rintro e' W3 (⟨rfl, hJ3, hk3⟩ | ⟨rfl, hJx3⟩)
          · gi_wp2
            go_roundw
            case rel => exact ⟨_, r2, hk3 _ HR1.out, hJ3, HF.out, by rw [List.length_append]; simp; omega⟩
            case measure => rw [HQ.out, qlen_row (hk3 _ HR1.out)]; omega
          · gi_wp2
            refine bodyPost_ret (results_none rfl _ _ _) rfl ?_
            exact ⟨⟨_, rfl⟩, .inr ⟨_, trivial, hJx3⟩⟩
    · have d1 : decide (0 < r.size) = false := decide_eq_false hp
      have hfin : pre = rawL (byL s) := by
        rw [← HG.out]
        have : byL r = [] := List.eq_nil_of_length_eq_zero (by rw [byL_size]; omega)
        rw [this]; show _ = pre ++ []; simp
      have dI : ((r.size : Int)) = 0 := by omega
      gi_wp2
      go_end0
      exact ⟨⟨_, rfl⟩, .inl ⟨pre, hfin, HJ.out⟩⟩
theorem lines_seq (n q : Nat) (s : ByteArray) (w : World) (hq : w.heap[q]? = some (.cells #[.string s] 9 (0, 0))) (hs : s.size ≤ 16777216) : SeqT q Fence.wide n Tryd.prog 49 #[.pointer (some ⟨q, 0, none⟩)] encS (Kb q) (fun ys => ys = rawL (byL s)) (fun _ => True) (OkL s) w := by
  intro l J Jx W hb hJ hJx hY h0
  exact lines1_in n l q s J Jx W hJ hJx hY (hkeepK hb hq) hs h0
theorem raw_flat (l : List UInt8) : ∀ c, (rawG c l).flatten = c ++ l := by
  induction l with
  | nil => intro c; rw [rawG]; split <;> simp_all
  | cons b r ih => intro c; rw [rawG]; split <;> simp [ih]
theorem raw_tot (s : ByteArray) {pre : List (List UInt8)} {x : List UInt8} (h : OkL s pre x) : (pre.map List.length).sum + x.length ≤ s.size ∧ pre.length ≤ s.size := by
  obtain ⟨rest, h⟩ := h
  have h1 := raw_flat (byL s) []
  have h2 : (pre ++ x :: rest).flatten = byL s := by rw [h]; exact h1
  have h3 := congrArg List.length h2
  rw [byL_size, List.length_flatten] at h3
  simp only [List.map_append, List.map_cons, List.sum_append, List.sum_cons] at h3
  refine ⟨by omega, ?_⟩
  have hne : ∀ (l c : List UInt8), ∀ y ∈ rawG c l, y ≠ [] := by
    intro l
    induction l with
    | nil => intro c y hy; rw [rawG] at hy; split at hy; simp at hy; next hc => simp at hy; subst hy; exact hc
    | cons b r ih => intro c y hy; rw [rawG] at hy; split at hy; · rcases List.mem_cons.1 hy with q | q; (rw [q]; simp); exact ih _ y q
                     · exact ih _ y hy
  have hp : ∀ (P : List (List UInt8)), (∀ y ∈ P, y ≠ []) → P.length ≤ (P.map List.length).sum := by
    intro P
    induction P with
    | nil => simp
    | cons a P ih => intro h; have h1 := ih (fun y hy => h y (by simp [hy])); have h2 := List.length_pos_iff.2 (h a (by simp)); simp only [List.length_cons, List.map_cons, List.sum_cons]; omega
  have := hp pre (fun y hy => hne (byL s) [] y (by have : rawG [] (byL s) = pre ++ x :: rest := h.symm; rw [this]; simp [hy]))
  omega
end Go.Proofs.YtdamhdceajmdfaaDoor
