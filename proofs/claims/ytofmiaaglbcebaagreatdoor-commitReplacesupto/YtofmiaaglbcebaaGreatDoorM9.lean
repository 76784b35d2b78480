import Derived.Test.YtofmiaaglbcebaaGreatDoorKFz
import Derived.Test.YtofmiaaglbcebaaGreatDoorKQ
import Derived.Test.YtofmiaaglbcebaaGreatDoorM7
import Derived.Test.YtofmiaaglbcebaaGreatDoorM8
import Derived.Test.YtofmiaaglbcebaaGreatDoorU11z
import Derived.Test.YtofmiaaglbcebaaGreatDoorR6z
import Derived.Deep.QuietTactic
import Derived.BigQuiet

-- The statements' inner: which Op and Name the error has.
namespace Go.Proofs.YtofmiaaglbcebaaGreatDoor
open Go.RowKit
set_option linter.unusedVariables false
set_option maxRecDepth 100000
set_option maxHeartbeats 4000000 in
theorem inner_c (a : Nat) (name : ByteArray) (w : World) (ha : a ≤ 7) : Calls Tryz.prog 24 #[.int .i64 (a : Int), .string name] w fun e w' => ∃ o n, e = .returned (.tuple #[.string o, .string n]) ∧ (a ≠ 0 → o = opR a ∧ n = nmR a name) ∧ Below w.heap.size w w' := by
  have hc : a = 0 ∨ a = 1 ∨ a = 2 ∨ a = 3 ∨ a = 4 ∨ a = 5 ∨ a = 6 ∨ a = 7 := by omega
  clear ha
  rcases hc with rfl | rfl | rfl | rfl | rfl | rfl | rfl | rfl
  all_goals
    go_enter Tryz.func24, Tryz.ntmps24
    go_wp2
    go_returns
  all_goals
    refine ⟨_, _, rfl, fun h0 => ⟨?_, ?_⟩, ?_⟩
  all_goals first
    | rfl
    | exact absurd rfl h0
    | go_grown
end Go.Proofs.YtofmiaaglbcebaaGreatDoor

-- commit's calls on both volumes.
namespace Go.Proofs.YtofmiaaglbcebaaGreatDoor
open Go.RowKit
set_option linter.unusedVariables false
set_option maxRecDepth 100000
variable {PS : (Nat → Prop) → Nat → St → World → Prop}
theorem bs_load (C : PC PS) (B q r : Nat) (v u : Vs) (S : Nat → Prop) (L : Nat) (nm : ByteArray) (w : World) (h : Bs PS B q r v u S L w) (hw : Wf v.st) (hn : v.cnt ≤ 4194304) :
    Calls Tryz.prog 19 #[.pointer (some ⟨q, 0, none⟩), .string nm] w fun e w' => ∃ ev, e = .returned (.tuple #[.string (if (v.read nm).1.2 = 0 then (v.read nm).1.1 else ⟨#[]⟩), .bool (decide ((v.read nm).1.2 = 0)), ev]) ∧ ErrIs w' w.heap.size ⟨#[114, 101, 97, 100]⟩ nm (if (v.read nm).1.2 = 30 then 0 else (v.read nm).1.2) ev ∧ Bs PS B q r (v.read nm).2 u S w.heap.size w' ∧ Beside B S w w' := by
  obtain ⟨G, H, h1, h2, h3, h4, h5, h6, h7, h8, h9, hB⟩ := h
  refine (cload_c C G q v nm w h1 hw hn h8 (fun hg => by have := h4 _ hg; omega)).mono ?_
  rintro e w' ⟨ev, G', rfl, he, hb⟩
  exact ⟨ev, rfl, he, Bs.prog h2 h3 h4 h5 h6 h8 h9 hB hb⟩
theorem bs_rload (C : PC PS) (B q r : Nat) (v u : Vs) (S : Nat → Prop) (L : Nat) (nm : ByteArray) (w : World) (h : Bs PS B q r v u S L w) (hw : Wf u.st) (hn : u.cnt ≤ 4194304) :
    Calls Tryz.prog 20 #[.pointer (some ⟨r, 0, none⟩), .string nm] w fun e w' => e = .returned (.tuple #[.string (if (u.read nm).1.2 = 0 then (u.read nm).1.1 else ⟨#[]⟩), .bool (decide ((u.read nm).1.2 = 0)), .int .i64 (((if (u.read nm).1.2 = 30 then 0 else (u.read nm).1.2 : Nat) : Int))]) ∧ Bs PS B q r v (u.read nm).2 S w'.heap.size w' ∧ Beside B S w w' ∧ ∀ op nm e ev, ErrIs w L op nm e ev → ErrIs w' L op nm e ev := by
  obtain ⟨G, H, h1, h2, h3, h4, h5, h6, h7, h8, h9, hB⟩ := h
  refine (rload_c H r u nm w h2 hw hn).mono ?_
  rintro e w' ⟨rfl, hd⟩
  exact ⟨rfl, Bs.rdid C h1 h2 h3 h4 h5 h6 h7 h8 h9 hB hd⟩
theorem bs_repl (C : PC PS) (B q r : Nat) (v u : Vs) (S : Nat → Prop) (L : Nat) (name data : ByteArray) (m0 m1 m2 m3 : Int) (w : World) (kk : Nat) (h : Bs PS B q r v u S L w) (hv : Vf v kk) (hk : kk + nP data + 8 < 2097151) (hd : data.size ≤ 140737488355328) :
    Calls Tryz.prog 22 #[.pointer (some ⟨q, 0, none⟩), .string name, .string data, .agg #[.int .i64 m0, .int .i64 m1, .int .i64 m2, .int .i64 m3]] w fun e w' => ∃ ev, e = .returned ev ∧ ErrIs w' w.heap.size (opR (v.replace name data m0 m1 m2 m3).1.2) (nmR (v.replace name data m0 m1 m2 m3).1.2 name) (v.replace name data m0 m1 m2 m3).1.1 ev ∧ Bs PS B q r (v.replace name data m0 m1 m2 m3).2 u S w.heap.size w' ∧ Beside B S w w' := by
  obtain ⟨G, H, h1, h2, h3, h4, h5, h6, h7, h8, h9, hB⟩ := h
  refine (crepl_c C G q v name data m0 m1 m2 m3 w kk h1 hv hk hd).mono ?_
  rintro e w' ⟨ev, rfl, hdg⟩
  obtain ⟨G', g1, g2⟩ := (Bh.refl h1).edg hdg
  exact ⟨ev, rfl, g2.is, Bs.prog h2 h3 h4 h5 h6 h8 h9 hB g1⟩
theorem bs_told (C : PC PS) (B q r : Nat) (v u : Vs) (S : Nat → Prop) (L : Nat) (name data : ByteArray) (m0 m1 m2 m3 : Int) (w : World) (kk : Nat) (h : Bs PS B q r v u S L w) (hv : Vf u kk) (hk : kk + nP data + 8 < 2097151) (hd : data.size ≤ 140737488355328) (hn : name.size ≤ 140737488355328) :
    Calls Tryz.prog 23 #[.pointer (some ⟨r, 0, none⟩), .string name, .string data, .agg #[.int .i64 m0, .int .i64 m1, .int .i64 m2, .int .i64 m3]] w fun e w' => e = .returned (.tuple #[.int .i64 ((u.replace name data m0 m1 m2 m3).1.1 : Int), .int .i64 ((u.replace name data m0 m1 m2 m3).1.2 : Int)]) ∧ Bs PS B q r v (u.replace name data m0 m1 m2 m3).2 S w'.heap.size w' ∧ Beside B S w w' ∧ ∀ op nm e ev, ErrIs w L op nm e ev → ErrIs w' L op nm e ev := by
  obtain ⟨G, H, h1, h2, h3, h4, h5, h6, h7, h8, h9, hB⟩ := h
  refine (rtold_c H r u name data m0 m1 m2 m3 w kk h2 hv hk hd hn).mono ?_
  rintro e w' ⟨H', rfl, hb⟩
  exact ⟨rfl, Bs.doc C h1 h3 h4 h5 h6 h7 h8 h9 hB hb⟩
end Go.Proofs.YtofmiaaglbcebaaGreatDoor

-- Errors and lists that were told.
namespace Go.Proofs.YtofmiaaglbcebaaGreatDoor
open Go.RowKit
set_option linter.unusedVariables false
variable {PS : (Nat → Prop) → Nat → St → World → Prop}
theorem assertFE17 (v : Value) (w : World) : (Instr.typeAssert (.iface 112 v) 56 112 true).run Tryz.prog w = .ok (.tuple #[v, .bool true]) w := by kernel_rfl
set_option maxRecDepth 20000 in
set_option maxHeartbeats 4000000 in
theorem told16_c (B : Nat) (op name : ByteArray) (e : Nat) (ev : Value) (w : World) (h : ErrIs w B op name e ev) :
    Calls Tryz.prog 21 #[ev, .string op, .string name, .int .i64 e] w fun r w' => r = .returned (.bool true) ∧ Alike w w' := by
  rcases h with ⟨rfl, rfl⟩ | ⟨h0, b, _, rfl, hb⟩
  · go_enter Tryz.func21, Tryz.ntmps21
    go_wp2
    go_returns
    exact ⟨rfl, ⟨rfl, rfl, rfl, rfl⟩⟩
  · have c0 : w.cell? ⟨b, 0, none⟩ = some (.string op) := by rw [Lib.cell_of_heap hb]; rfl
    have c1 : w.cell? ⟨b, 1, none⟩ = some (.string name) := by rw [Lib.cell_of_heap hb]; rfl
    have c2 : w.cell? ⟨b, 2, none⟩ = some (.int .i64 e) := by rw [Lib.cell_of_heap hb]; rfl
    have b1 : ((e : Int) == 0) = false := by simp; omega
    have b2 : ((e : Int) == e) = true := by simp
    have b3 : (op.toList == op.toList) = true := by simp
    have b4 : (name.toList == name.toList) = true := by simp
    have hfe := assertFE17
    clear hb h0
    go_enter Tryz.func21, Tryz.ntmps21
    go_wp2
    go_returns
    exact ⟨rfl, ⟨rfl, rfl, rfl, rfl⟩⟩
set_option maxHeartbeats 1000000 in
theorem same16_c (va vb : Value) (la lb : List ByteArray) (w : World) (ha : RowS w va la) (hb : RowS w vb lb) (hla : la.length ≤ 4194304) (hlb : lb.length ≤ 4194304) :
    Calls Tryz.prog 31 #[va, vb] w fun e w' => e = .returned (.bool (decide (la = lb))) ∧ ∃ n, w' = w.drewN n := by
  by_cases hlen : la.length = lb.length
  · rcases Nat.eq_zero_or_pos la.length with h0 | h0
    · obtain rfl : la = [] := List.eq_nil_of_length_eq_zero h0
      obtain rfl : lb = [] := List.eq_nil_of_length_eq_zero (by omega)
      obtain ⟨ao, cap, rfl⟩ := ha.form
      obtain ⟨ao', cap', rfl⟩ := hb.form
      clear ha hb
      simp only [List.length_nil]
      go_enter Tryz.func31, Tryz.ntmps31
      go_wp2
      go_rounds 1
      go_ret
      exact ⟨by simp, 0, rfl⟩
    · obtain ⟨b, off, cap, rfl, hca⟩ : ∃ b off cap, va = .slice (some ⟨b, off, none⟩) la.length cap ∧ ∀ j, j < la.length → w.cell? ⟨b, off + j, none⟩ = some (.string (la.getD j .empty)) := by
        rcases ha with ⟨rfl, _⟩ | h
        · simp at h0
        · exact h
      obtain ⟨b', off', cap', rfl, hcb⟩ : ∃ b off cap, vb = .slice (some ⟨b, off, none⟩) lb.length cap ∧ ∀ j, j < lb.length → w.cell? ⟨b, off + j, none⟩ = some (.string (lb.getD j .empty)) := by
        rcases hb with ⟨rfl, _⟩ | h
        · rw [List.length_nil] at hlen; omega
        · exact h
      obtain ⟨n, hn⟩ : ∃ n, n = la.length := ⟨_, rfl⟩
      rw [← hlen] at hcb ⊢
      rw [← hn] at hca hcb hla ⊢ h0
      have HL : Hid (n = la.length ∧ la.length = lb.length) := ⟨hn, hlen⟩
      have HA : Hid (∀ j, j < n → w.cell? ⟨b, off + j, none⟩ = some (.string (la.getD j .empty))) := hca
      have HB : Hid (∀ j, j < n → w.cell? ⟨b', off' + j, none⟩ = some (.string (lb.getD j .empty))) := hcb
      clear hn hlen hlb hca hcb
      go_enter Tryz.func31, Tryz.ntmps31
      go_wp2
      go_loopw [5] (fun i wx => ∃ k : Nat, i = .int .i64 k ∧ k ≤ n ∧ (∀ j, j < k → la.getD j .empty = lb.getD j .empty) ∧ ∃ m, wx = w.drewN m) (fun i _ => n - (intOf i).toNat)
      case atStart => exact ⟨0, rfl, Nat.zero_le _, fun j hj => absurd hj (Nat.not_lt_zero _), 0, rfl⟩
      case round =>
        obtain ⟨k, rfl, hkn, hsm, m, rfl⟩ := hrel
        have HSM : Hid (∀ j, j < k → la.getD j .empty = lb.getD j .empty) := hsm
        clear hsm
        by_cases hk : k < n
        · have b1 : decide ((k : Int) < (n : Int)) = true := by simp; omega
          have kI : (k : Int) < (n : Int) := by omega
          have ca : w.cell? ⟨b, off + k, none⟩ = some (.string (la.getD k .empty)) := HA.out k hk
          have cb : w.cell? ⟨b', off' + k, none⟩ = some (.string (lb.getD k .empty)) := HB.out k hk
          obtain ⟨x, hx⟩ : ∃ x, x = la.getD k .empty := ⟨_, rfl⟩
          obtain ⟨y, hy⟩ : ∃ y, y = lb.getD k .empty := ⟨_, rfl⟩
          rw [← hx] at ca
          rw [← hy] at cb
          have HXY : Hid (x = la.getD k .empty ∧ y = lb.getD k .empty) := ⟨hx, hy⟩
          clear hx hy
          by_cases hxy : x = y
          · have hbe : (x.toList == y.toList) = true := by rw [beqS]; simp [hxy]
            have HEQ : Hid (x = y) := hxy
            clear hxy
            go_wp2_with fail
            go_quiet (fail)
            go_wp2
            go_roundw
            case rel =>
              refine ⟨k + 1, by go_num, by omega, fun j hj => ?_, m + nq, rfl⟩
              by_cases e : j = k
              · subst e; rw [← HXY.out.1, ← HXY.out.2]; exact HEQ.out
              · exact HSM.out j (by omega)
            case measure => simp [intOf]; omega
          · have hbe : (x.toList == y.toList) = false := by rw [beqS]; simp [hxy]
            have HNE : Hid (¬ la = lb) := fun e => hxy (by rw [HXY.out.1, HXY.out.2, e])
            clear hxy
            go_wp2_with fail
            go_quiet (fail)
            go_wp2
            go_ret
            exact ⟨by rw [decide_eq_false HNE.out]; rfl, m + nq, by simp⟩
        · obtain rfl : k = n := by omega
          have b1 : decide ((k : Int) < (k : Int)) = false := by simp
          have HEQ : Hid (la = lb) := list_ext HL.out.2 (fun j hj => HSM.out j (by rw [HL.out.1]; exact hj))
          go_wp2
          go_ret
          exact ⟨by rw [decide_eq_true HEQ.out]; rfl, m, rfl⟩
  · obtain ⟨ao, cap, rfl⟩ := ha.form
    obtain ⟨ao', cap', rfl⟩ := hb.form
    have hn : ((la.length : Int) != (lb.length : Int)) = true := by simp; omega
    have HNE : Hid (¬ la = lb) := fun e => hlen (by rw [e])
    clear ha hb hlen
    go_enter Tryz.func31, Tryz.ntmps31
    go_wp2
    go_ret
    exact ⟨by rw [decide_eq_false HNE.out]; rfl, 0, rfl⟩
end Go.Proofs.YtofmiaaglbcebaaGreatDoor
