
-- Two Vols beside one another, and a script on both.
import Derived.Test.YtjbphheojfclcaaGreatZD
import Derived.Test.YtjbphheojfclcaaGreatZE
import Derived.Test.YtjbphheojfclcaaGreatZQ
namespace Go.Proofs.YtjbphheojfclcaaGreat
open Go.RowKit
set_option linter.unusedVariables false
set_option maxRecDepth 100000
variable {PS : (Nat → Prop) → Nat → St → World → Prop}
attribute [local go_sem ↓] Go.wp_at_zero Go.wp_at_succ
/-- Two Vols, apart, all their memory in blocks of U. -/
def T2 (PS : (Nat → Prop) → Nat → St → World → Prop) (U : Nat → Prop) (va vb : Nat) (x y : Vl) (w : World) : Prop :=
  ∃ S1 S2, VA PS S1 va x w ∧ VA PS S2 vb y w ∧ (∀ k, S1 k → ¬ S2 k) ∧ (∀ k, S1 k → U k) ∧ (∀ k, S2 k → U k) ∧ ∀ k, U k → k < w.heap.size
section
variable {U : Nat → Prop} {va vb : Nat} {x y x' y' : Vl} {w w' : World}
theorem T2.below (C : PC PS) (h : T2 PS U va vb x y w) (hb : Below w.heap.size w w') : T2 PS U va vb x y w' := by
  obtain ⟨S1, S2, h1, h2, h3, h4, h5, h6⟩ := h
  exact ⟨S1, S2, h1.below C hb, h2.below C hb, h3, h4, h5, fun k hk => Nat.lt_of_lt_of_le (h6 k hk) hb.size⟩
theorem T2.low (h : T2 PS U va vb x y w) : ∀ k, U k → k < w.heap.size := by
  obtain ⟨S1, S2, h1, h2, h3, h4, h5, h6⟩ := h
  exact h6
theorem T2.mono (h : T2 PS U va vb x y w) {U' : Nat → Prop} (h1 : ∀ k, U k → U' k) (hl : ∀ k, U' k → k < w.heap.size) : T2 PS U' va vb x y w := by
  obtain ⟨S1, S2, g1, g2, g3, g4, g5, g6⟩ := h
  exact ⟨S1, S2, g1, g2, g3, fun k hk => h1 k (g4 k hk), fun k hk => h1 k (g5 k hk), hl⟩
theorem T2.same (C : PC PS) (h : T2 PS U va vb x y w) (hs : w.heap.size ≤ w'.heap.size) (hk : ∀ k, U k → w'.heap[k]? = w.heap[k]?) : T2 PS U va vb x y w' := by
  obtain ⟨S1, S2, g1, g2, g3, g4, g5, g6⟩ := h
  exact ⟨S1, S2, g1.same C hs fun k h => hk k (g4 k h), g2.same C hs fun k h => hk k (g5 k h), g3, g4, g5, fun k hk => Nat.lt_of_lt_of_le (g6 k hk) hs⟩
theorem T2.flip (h : T2 PS U va vb x y w) : T2 PS U vb va y x w := by
  obtain ⟨S1, S2, g1, g2, g3, g4, g5, g6⟩ := h
  exact ⟨S2, S1, g2, g1, fun k h1 h2 => g3 k h2 h1, g5, g4, g6⟩
def T2D (PS : (Nat → Prop) → Nat → St → World → Prop) (U : Nat → Prop) (va vb : Nat) (x y : Vl) (w w' : World) : Prop := T2 PS (ext U w w') va vb x y w' ∧ Kp U w w'
/-- What is done on the first. -/
theorem T2.first (C : PC PS) (h : T2 PS U va vb x y w) : ∃ S1, VA PS S1 va x w ∧ (∀ k, S1 k → U k) ∧ ∀ x' w', VAD PS S1 va x' w w' → T2D PS U va vb x' y w w' := by
  obtain ⟨S1, S2, g1, g2, g3, g4, g5, g6⟩ := h
  refine ⟨S1, g1, g4, fun x' w' hd => ⟨⟨ext S1 w w', S2, hd.1, g2.same C hd.2.size (fun k hk => hd.2.block k (g2.low k hk) fun h => g3 k h hk), fun k h1 h2 => ?_, fun k hk => ?_, fun k hk => .inl (g5 k hk), fun k hk => ?_⟩, hd.2.mono' g4⟩⟩
  · rcases h1 with h1 | h1
    · exact g3 k h1 h2
    · have := g2.low k h2; omega
  · rcases hk with hk | hk
    · exact .inl (g4 k hk)
    · exact .inr hk
  · have := hd.2.size
    rcases hk with hk | hk
    · have := g6 k hk; omega
    · exact hk.2
theorem T2.second (C : PC PS) (h : T2 PS U va vb x y w) : ∃ S2, VA PS S2 vb y w ∧ (∀ k, S2 k → U k) ∧ ∀ y' w', VAD PS S2 vb y' w w' → T2D PS U va vb x y' w w' := by
  obtain ⟨S2, h1, h2, h3⟩ := h.flip.first C
  exact ⟨S2, h1, h2, fun y' w' hd => ⟨(h3 y' w' hd).1.flip, (h3 y' w' hd).2⟩⟩
theorem T2D.below (C : PC PS) {w'' : World} (h : T2D PS U va vb x y w w') (hb : Below w'.heap.size w' w'') : T2D PS U va vb x y w w'' := by
  have hs := hb.size
  refine ⟨(h.1.below C hb).mono (fun k hk => ?_) (fun k hk => ?_), h.2.kept hb⟩
  · rcases hk with hk | hk
    · exact .inl hk
    · exact .inr ⟨hk.1, by omega⟩
  · rcases hk with hk | hk
    · have := h.1.low k (.inl hk); omega
    · exact hk.2
theorem T2D.then {w'' : World} (h : T2D PS U va vb x y w w') (k : T2D PS (ext U w w') va vb x' y' w' w'') : T2D PS U va vb x' y' w w'' := by
  have h1 := h.2.size
  have h2 := k.2.size
  refine ⟨k.1.mono (fun i hi => ?_) (fun i hi => ?_), h.2.then k.2⟩
  · rcases hi with (hi | hi) | hi
    · exact .inl hi
    · exact .inr ⟨hi.1, by omega⟩
    · exact .inr ⟨by omega, hi.2⟩
  · rcases hi with hi | hi
    · exact k.1.low i (.inl (.inl hi))
    · exact hi.2
theorem T2D.start (h : T2 PS U va vb x y w) : T2D PS U va vb x y w w := by
  refine ⟨h.mono (fun k hk => .inl hk) (fun k hk => ?_), Kp.of_below (Below.refl _ _)⟩
  rcases hk with hk | hk
  · exact h.low k hk
  · omega
/-- A call on the first, and behind it one on the second. -/
theorem T2.two (C : PC PS) {S1 S2 : Nat → Prop} (g1 : VA PS S1 va x w) (g2 : VA PS S2 vb y w) (g3 : ∀ k, S1 k → ¬ S2 k) (g4 : ∀ k, S1 k → U k) (g5 : ∀ k, S2 k → U k) (g6 : ∀ k, U k → k < w.heap.size) {w1 W : World} (hd1 : VAD PS S1 va x' w w1) (hb : Below w1.heap.size w1 W) :
    VA PS S2 vb y W ∧ ∀ y' w2, VAD PS S2 vb y' W w2 → T2D PS U va vb x' y' w w2 := by
  have hs1 := hd1.2.size
  have hsW := hb.size
  have v2 : VA PS S2 vb y W := (g2.same C hs1 (fun k hk => hd1.2.block k (g2.low k hk) fun h => g3 k h hk)).below C hb
  refine ⟨v2, fun y' w2 hd2 => ?_⟩
  have hs2 := hd2.2.size
  have no : ∀ k, ext S1 w w1 k → ¬ S2 k := fun k h h2 => by
    rcases h with h | h
    · exact g3 k h h2
    · have := g2.low k h2; omega
  refine ⟨⟨ext S1 w w1, ext S2 W w2, (hd1.1.below C hb).same C hs2 (fun k hk => hd2.2.block k (by have := hd1.1.low k hk; omega) (no k hk)), hd2.1, fun k h1 h2 => ?_, fun k hk => ?_, fun k hk => ?_, fun k hk => ?_⟩, ?_⟩
  · rcases h2 with h2 | h2
    · exact no k h1 h2
    · have := hd1.1.low k h1; omega
  · rcases hk with hk | hk
    · exact .inl (g4 k hk)
    · exact .inr ⟨hk.1, by omega⟩
  · rcases hk with hk | hk
    · exact .inl (g5 k hk)
    · exact .inr ⟨by omega, hk.2⟩
  · rcases hk with hk | hk
    · have := g6 k hk; omega
    · exact hk.2
  · have k1 : Kp U w W := (hd1.2.mono' g4).kept hb
    have k2 := hd2.2.mono' g5
    exact k1.trans k2
theorem call_len {x : Vl} {k : Nat} (h : Vlf x k) (o : Cl) : (x.call o).1.l.length ≤ 64 := by
  have key : ∀ (p : An × Vl), p = x.call o → p.1.l.length ≤ 64 := fun p hp => by
    have hl : x.v.list.1.1.length ≤ 64 := by
      unfold Vs.list
      split
      · simp
      · exact names_len h.vf.wf
    have hf : ∀ (a : An) op nm e, (a.fail op nm e).l = a.l := fun a op nm e => by unfold An.fail; split <;> rfl
    rw [hp]
    unfold Vl.call
    split
    · rw [hf]; simp [an0]
    split
    · rw [hf]; simp [an0, anInfo]
    split
    · rw [hf]; exact hl
    split
    · unfold Vl.made
      split
      · simp [an0]
      · rw [hf]; simp [an0]
    split
    · rw [hf]; simp [an0]
    split
    · rw [hf]; simp [an0]
    split
    · rw [hf]; simp [an0]
    split
    · unfold Vl.byHandle
      split
      · simp [an0]
      · unfold Vl.byH
        split
        · rw [hf]; simp [an0]
        split
        · rw [hf]; simp [an0]
        split
        · rw [hf]; simp [an0]
        · simp [an0]
    · simp [an0]
  exact key _ rfl
/-- What is asked of a step's arguments here. -/
structure OkC (o : Opv) : Prop where
  pv : ∃ ao l c, o.pv = .slice ao l c
  cv : ∃ ao l c, o.cv = .slice ao l c
  small : o.a.size ≤ 140737488355328
set_option maxRecDepth 20000 in
set_option maxHeartbeats 16000000 in
theorem both_c (C : PC PS) (U : Nat → Prop) (va vb : Nat) (x y : Vl) (k0 : Nat) (sv : Value) (ops : List Opv) (w : World) (h : T2 PS U va vb x y w) (hs : Sim x y) (fx : Vlf x k0) (fy : Vlf y k0) (hv : RowV w sv ops) (hnU : ops ≠ [] → ∀ k, sv.ownBlock = some k → ¬ U k) (hok : ∀ o ∈ ops, OkC o) (hk0 : k0 + ops.length ≤ 2097151) :
    Calls Tryz.prog 14 #[.pointer (some ⟨va, 0, none⟩), .pointer (some ⟨vb, 0, none⟩), sv] w fun e w' => e = .returned (.bool true) ∧ T2D PS U va vb (x.plays (ops.map Opv.c)) (y.plays (ops.map Opv.c)) w w' := by
  obtain ⟨ao, cp, hvs⟩ := hv.form
  obtain ⟨n, hn⟩ : ∃ n, n = ops.length := ⟨_, rfl⟩
  have HV : Hid (RowV w sv ops ∧ (ops ≠ [] → ∀ k, sv.ownBlock = some k → ¬ U k)) := ⟨hv, hnU⟩
  have HNN : Hid (n = ops.length) := hn
  have HST : Hid (∀ (k : Nat) (o : Opv) (wr : World), ops[k]? = some o → T2D PS U va vb (x.plays ((ops.take k).map Opv.c)) (y.plays ((ops.take k).map Opv.c)) w wr → 
      Calls Tryz.prog 11 #[.pointer (some ⟨va, 0, none⟩), o.v] wr fun e w1 => ∃ ao c, e = .returned (.agg (ansV ((x.plays ((ops.take k).map Opv.c)).call o.c).1 (.slice ao ((x.plays ((ops.take k).map Opv.c)).call o.c).1.l.length c))) ∧ T2D PS U va vb (x.plays ((ops.take (k + 1)).map Opv.c)) (y.plays ((ops.take k).map Opv.c)) w w1 ∧ RowS w1 (.slice ao ((x.plays ((ops.take k).map Opv.c)).call o.c).1.l.length c) ((x.plays ((ops.take k).map Opv.c)).call o.c).1.l ∧
      ∀ W, Below w1.heap.size w1 W → Calls Tryz.prog 11 #[.pointer (some ⟨vb, 0, none⟩), o.v] W fun e w2 => ∃ ao' c', e = .returned (.agg (ansV ((x.plays ((ops.take k).map Opv.c)).call o.c).1 (.slice ao' ((x.plays ((ops.take k).map Opv.c)).call o.c).1.l.length c'))) ∧ T2D PS U va vb (x.plays ((ops.take (k + 1)).map Opv.c)) (y.plays ((ops.take (k + 1)).map Opv.c)) w w2 ∧ RowS w2 (.slice ao ((x.plays ((ops.take k).map Opv.c)).call o.c).1.l.length c) ((x.plays ((ops.take k).map Opv.c)).call o.c).1.l ∧ RowS w2 (.slice ao' ((x.plays ((ops.take k).map Opv.c)).call o.c).1.l.length c') ((x.plays ((ops.take k).map Opv.c)).call o.c).1.l ∧ (∀ j, w1.heap.size ≤ j → j < W.heap.size → w2.heap[j]? = W.heap[j]?) ∧ W.heap.size ≤ w2.heap.size) := fun k o wr ho ht => by
    have hkl : k < ops.length := (List.getElem?_eq_some_iff.1 ho).1
    have hok' := hok o (List.mem_of_getElem? ho)
    have hoc : (ops.map Opv.c)[k]? = some o.c := by rw [List.getElem?_map, ho]; rfl
    have hx1 : x.plays ((ops.take (k + 1)).map Opv.c) = ((x.plays ((ops.take k).map Opv.c)).call o.c).2 := by rw [List.map_take, List.map_take]; exact plays_take x _ k o.c hoc
    have hy1 : y.plays ((ops.take (k + 1)).map Opv.c) = ((y.plays ((ops.take k).map Opv.c)).call o.c).2 := by rw [List.map_take, List.map_take]; exact plays_take y _ k o.c hoc
    have hlt : ((ops.take k).map Opv.c).length = k := by rw [List.length_map, List.length_take]; omega
    have fxk := fx.plays ((ops.take k).map Opv.c) (by omega)
    have fyk := fy.plays ((ops.take k).map Opv.c) (by omega)
    rw [hlt] at fxk fyk
    have hsk := hs.plays ((ops.take k).map Opv.c)
    have hse := hsk.call o.c
    rw [hx1, hy1]
    generalize x.plays ((ops.take k).map Opv.c) = X at ht fxk hsk hse ⊢
    generalize y.plays ((ops.take k).map Opv.c) = Y at ht fyk hsk hse ⊢
    obtain ⟨S1, S2, g1, g2, g3, g4, g5, g6⟩ := ht.1
    refine (call_c C S1 va X (k0 + k) o wr g1 fxk (by omega) hok'.pv hok'.cv hok'.small).mono ?_
    rintro e w1 ⟨ao1, c1, rfl, hd1, hr1⟩
    obtain ⟨_, hT1⟩ := T2.two C g1 g2 g3 g4 g5 g6 hd1 (Below.refl _ w1)
    have hrs := hd1.2.size
    have ht1 : T2D PS U va vb (X.call o.c).2 Y w w1 := by
      obtain ⟨S1', f1, f2, f3⟩ := ht.1.first C
      refine ht.then ⟨⟨ext S1 wr w1, S2, hd1.1, g2.same C hrs (fun k hk => hd1.2.block k (g2.low k hk) fun h => g3 k h hk), fun k h1 h2 => ?_, fun k hk => ?_, fun k hk => .inl (g5 k hk), fun k hk => ?_⟩, hd1.2.mono' g4⟩
      · rcases h1 with h1 | h1
        · exact g3 k h1 h2
        · have := g2.low k h2; omega
      · rcases hk with hk | hk
        · exact .inl (g4 k hk)
        · exact .inr hk
      · rcases hk with hk | hk
        · have := g6 k hk; omega
        · exact hk.2
    refine ⟨ao1, c1, rfl, ht1, RowS.of_own hr1, fun W hb => ?_⟩
    obtain ⟨vW, hT⟩ := T2.two C g1 g2 g3 g4 g5 g6 hd1 hb
    have hbs := hb.size
    refine (call_c C S2 vb Y (k0 + k) o W vW fyk (by omega) hok'.pv hok'.cv hok'.small).mono ?_
    rintro e w2 ⟨ao2, c2, rfl, hd2, hr2⟩
    rw [← hse.1] at hr2 ⊢
    have hrow : w2.ownsRow wr.heap.size 9 1 (.slice ao1 (X.call o.c).1.l.length c1) (X.call o.c).1.l.length (strV (X.call o.c).1.l) := own_keep (own_keep hr1 fun k hk => hb.block k (hr1.lt k hk).2) fun k hk => hd2.2.block k (by have := (hr1.lt k hk).2; omega) fun h => by have := g2.low k h; have := (hr1.lt k hk).1; omega
    exact ⟨ao2, c2, rfl, ht.then (hT _ _ hd2), RowS.of_own hrow, RowS.of_own hr2, fun j h1 h2 => hd2.2.block j h2 (fun h => by have := g2.low j h; omega), hd2.2.size⟩
  have HAK : Hid (∀ (a : An) ao ao' c c' W, a.l.length ≤ 64 → RowS W (.slice ao a.l.length c) a.l → RowS W (.slice ao' a.l.length c') a.l → Calls Tryz.prog 17 #[.agg (ansV a (.slice ao a.l.length c)), .agg (ansV a (.slice ao' a.l.length c'))] W fun r w' => r = .returned (.bool true) ∧ Below W.heap.size W w') := fun a ao ao' c c' W hl h1 h2 => alike_c a ao ao' c c' W h1 h2 (by omega)
  have HLN : Hid (∀ (k : Nat) (o : Opv), ops[k]? = some o → ((x.plays ((ops.take k).map Opv.c)).call o.c).1.l.length ≤ 64) := fun k o ho => by
    have hkl : k < ops.length := (List.getElem?_eq_some_iff.1 ho).1
    have hlt : ((ops.take k).map Opv.c).length = k := by rw [List.length_map, List.length_take]; omega
    have fxk := fx.plays ((ops.take k).map Opv.c) (by omega)
    exact call_len fxk _
  have HT0 : Hid (T2D PS U va vb (x.plays ((ops.take 0).map Opv.c)) (y.plays ((ops.take 0).map Opv.c)) w w) := T2D.start h
  have HTB : Hid (∀ X Y w1 W, T2D PS U va vb X Y w w1 → Below w1.heap.size w1 W → T2D PS U va vb X Y w W) := fun X Y w1 W h1 h2 => h1.below C h2
  have HOK : Hid (∀ o ∈ ops, OkC o) := hok
  have HEND : Hid (∀ wr, T2D PS U va vb (x.plays ((ops.take n).map Opv.c)) (y.plays ((ops.take n).map Opv.c)) w wr → T2D PS U va vb (x.plays (ops.map Opv.c)) (y.plays (ops.map Opv.c)) w wr ∧ ∃ q1 q2 L a1 c1 a2 c2, wr.cell? ⟨va, 1, none⟩ = some (.slice a1 L c1) ∧ wr.cell? ⟨vb, 1, none⟩ = some (.slice a2 L c2)) := fun wr ht => by
    rw [hn, List.take_length] at ht
    refine ⟨ht, ?_⟩
    obtain ⟨S1, S2, ⟨q1, mv1, G1, hs1, T1⟩, ⟨q2, mv2, G2, hs2, T2⟩, -⟩ := ht.1
    obtain ⟨a1, c1, h1⟩ := own_shape T1.row
    obtain ⟨a2, c2, h2⟩ := own_shape T2.row
    have hh := (hs.plays (ops.map Opv.c)).hs
    have hll : hs1.length = hs2.length := by
      have e1 := congrArg List.length T1.eq
      have e2 := congrArg List.length T2.eq
      rw [List.length_map] at e1 e2
      rw [e1, e2, hh]
    refine ⟨q1, q2, hs1.length, a1, c1, a2, c2, ?_, ?_⟩
    · rw [← h1]; exact T1.cells.2.1
    · rw [hll, ← h2]; exact T2.cells.2.1
  have hlen : n ≤ 2097151 := by omega
  clear h hs fx fy hok hk0 hnU
  rw [← hn] at hvs
  subst hvs
  clear hn hv
  go_enter Tryz.func14, Tryz.ntmps14
  go_wp2_with fail
  go_loopw [7] (fun i wr => ∃ k : Nat, i = .int .i64 k ∧ k ≤ n ∧ T2D PS U va vb (x.plays ((ops.take k).map Opv.c)) (y.plays ((ops.take k).map Opv.c)) w wr) (fun i _ => n - (intOf i).toNat)
  case atStart => exact ⟨0, rfl, Nat.zero_le _, HT0.out⟩
  case round =>
    obtain ⟨k, rfl, hkn, ht⟩ := hrel
    by_cases hk : k < n
    · have hkl : k < ops.length := by rw [← HNN.out]; exact hk
      obtain ⟨o, ho⟩ : ∃ o, ops[k]? = some o := ⟨_, List.getElem?_eq_getElem hkl⟩
      obtain ⟨b, off, rfl, hbl, hat⟩ : ∃ b off, ao = some ⟨b, off, none⟩ ∧ b < w.heap.size ∧ OpvAt w b (off + k * 10) o := by
        rcases HV.out.1 with ⟨h0, _⟩ | ⟨b, off, cap, hv, hb, hc⟩
        · rw [h0] at hkl; simp at hkl
        · cases hv; exact ⟨b, off, rfl, hb, hc k o ho⟩
      have hbU : ¬ U b := HV.out.2 (fun e => by rw [e] at hkl; simp at hkl) b rfl
      have HAT : Hid (∀ W, T2D PS U va vb (x.plays ((ops.take (k + 1)).map Opv.c)) (y.plays ((ops.take k).map Opv.c)) w W → W.heap[b]? = w.heap[b]?) := fun W hW => hW.2.block b hbl hbU
      have hcell : ∀ W : World, W.heap[b]? = w.heap[b]? → OpvAt W b (off + k * 10) o := fun W hW => by
        have key : ∀ j v, w.cell? ⟨b, j, none⟩ = some v → W.cell? ⟨b, j, none⟩ = some v := fun j v hv => (World.cell?_of_block (a := ⟨b, j, none⟩) hW).trans hv
        obtain ⟨h0, h1, h2, h3, h4, h5, h6, h7, h8, h9⟩ := hat
        exact ⟨key _ _ h0, key _ _ h1, key _ _ h2, key _ _ h3, key _ _ h4, key _ _ h5, key _ _ h6, key _ _ h7, key _ _ h8, key _ _ h9⟩
      have hat0 := hcell wr (ht.2.block b hbl hbU)
      have hokk := HOK.out o (List.mem_of_getElem? ho)
      have hst := HST.out k o wr ho ht
      have hll := HLN.out k o ho
      obtain ⟨A, hA⟩ : ∃ A, A = ((x.plays ((ops.take k).map Opv.c)).call o.c).1 := ⟨_, rfl⟩
      rw [← hA] at hst hll
      have HLL : Hid (A.l.length ≤ 64) := hll
      obtain ⟨LN, hLN⟩ : ∃ LN, LN = A.l.length := ⟨_, rfl⟩
      rw [← hLN] at hst
      have HLN2 : Hid (LN = A.l.length) := hLN
      obtain ⟨⟨po, pl, pc, hpv⟩, ⟨co, cl, cc, hcv⟩, -⟩ := hokk
      clear hat ht hA hll ho hkl hLN
      obtain ⟨kind, nn, a, bb, m0, m1, m2, m3, pv, cv, plan, cuts⟩ := o
      simp only at hpv hcv
      subst hpv; subst hcv
      have HCELL : Hid (∀ W : World, W.heap[b]? = w.heap[b]? → OpvAt W b (off + k * 10) ⟨kind, nn, a, bb, m0, m1, m2, m3, .slice po pl pc, .slice co cl cc, plan, cuts⟩) := hcell
      obtain ⟨e0, e1, e2, e3, e4, e5, e6, e7, e8, e9⟩ := hat0
      simp only at e0 e1 e2 e3 e4 e5 e6 e7 e8 e9
      unfold Opv.v ansV at hst
      simp only at hst
      have HSTK : Hid _ := hst
      have b1 : decide ((k : Int) < (n : Int)) = true := by simp; omega
      have i1 : (k : Int) < (n : Int) := by omega
      have i2 : (0 : Int) ≤ (k : Int) := by omega
      have HBU : Hid (b < w.heap.size ∧ ¬ U b) := ⟨hbl, hbU⟩
      clear hst hcell hbl hbU
      go_wp2_with fail
      go_at_call 11
      refine Calls.mono HSTK.out ?_
      rintro e w1 ⟨ao1, c1, rfl, ht1, hr1, hs2⟩
      have hbA : Below w1.heap.size w1 (w1.alloc (.cells #[.string A.s, .int .i64 A.n, .int .i64 A.i0, .int .i64 A.i1, .int .i64 A.i2, .int .i64 A.i3, .string A.iname, .int .i64 A.isz, .slice ao1 LN c1, .bool A.bad, .bool false, .string A.op, .string A.nm, .int .i64 A.e] 34)) := (Below.refl _ w1).alloc (Nat.le_refl _) _
      have hbw1 : b < w1.heap.size := by have := ht1.2.size; have := HBU.out.1; omega
      have hat1 := HCELL.out (w1.alloc (.cells #[.string A.s, .int .i64 A.n, .int .i64 A.i0, .int .i64 A.i1, .int .i64 A.i2, .int .i64 A.i3, .string A.iname, .int .i64 A.isz, .slice ao1 LN c1, .bool A.bad, .bool false, .string A.op, .string A.nm, .int .i64 A.e] 34)) ((hbA.block b hbw1).trans (HAT.out w1 ht1))
      obtain ⟨d0, d1, d2, d3, d4, d5, d6, d7, d8, d9⟩ := hat1
      simp only at d0 d1 d2 d3 d4 d5 d6 d7 d8 d9
      have hs2' := hs2 _ hbA
      have HS2 : Hid _ := hs2'
      have hA1 : (w1.alloc (.cells #[.string A.s, .int .i64 A.n, .int .i64 A.i0, .int .i64 A.i1, .int .i64 A.i2, .int .i64 A.i3, .string A.iname, .int .i64 A.isz, .slice ao1 LN c1, .bool A.bad, .bool false, .string A.op, .string A.nm, .int .i64 A.e] 34)).heap[w1.heap.size]? = some (.cells #[.string A.s, .int .i64 A.n, .int .i64 A.i0, .int .i64 A.i1, .int .i64 A.i2, .int .i64 A.i3, .string A.iname, .int .i64 A.isz, .slice ao1 LN c1, .bool A.bad, .bool false, .string A.op, .string A.nm, .int .i64 A.e] 34 (0, 0)) := new_at rfl
      have HA1 : Hid ((w1.alloc (.cells #[.string A.s, .int .i64 A.n, .int .i64 A.i0, .int .i64 A.i1, .int .i64 A.i2, .int .i64 A.i3, .string A.iname, .int .i64 A.isz, .slice ao1 LN c1, .bool A.bad, .bool false, .string A.op, .string A.nm, .int .i64 A.e] 34)).heap[w1.heap.size]? = some (.cells #[.string A.s, .int .i64 A.n, .int .i64 A.i0, .int .i64 A.i1, .int .i64 A.i2, .int .i64 A.i3, .string A.iname, .int .i64 A.isz, .slice ao1 LN c1, .bool A.bad, .bool false, .string A.op, .string A.nm, .int .i64 A.e] 34 (0, 0)) ∧ w1.heap.size < (w1.alloc (.cells #[.string A.s, .int .i64 A.n, .int .i64 A.i0, .int .i64 A.i1, .int .i64 A.i2, .int .i64 A.i3, .string A.iname, .int .i64 A.isz, .slice ao1 LN c1, .bool A.bad, .bool false, .string A.op, .string A.nm, .int .i64 A.e] 34)).heap.size) := ⟨hA1, by simp⟩
      clear hs2 hs2' hA1 hbA hbw1 ht1 hr1 HSTK
      go_wp2_with fail
      go_at_call 11
      refine Calls.mono HS2.out ?_
      rintro e w2 ⟨ao2, c2, rfl, ht2, hr1', hr2', hkeep, hsz⟩
      have hA2 := (hkeep w1.heap.size (Nat.le_refl _) HA1.out.2).trans HA1.out.1
      have hbB : Below w2.heap.size w2 (w2.alloc (.cells #[.string A.s, .int .i64 A.n, .int .i64 A.i0, .int .i64 A.i1, .int .i64 A.i2, .int .i64 A.i3, .string A.iname, .int .i64 A.isz, .slice ao2 LN c2, .bool A.bad, .bool false, .string A.op, .string A.nm, .int .i64 A.e] 34)) := (Below.refl _ w2).alloc (Nat.le_refl _) _
      have hA3 : (w2.alloc (.cells #[.string A.s, .int .i64 A.n, .int .i64 A.i0, .int .i64 A.i1, .int .i64 A.i2, .int .i64 A.i3, .string A.iname, .int .i64 A.isz, .slice ao2 LN c2, .bool A.bad, .bool false, .string A.op, .string A.nm, .int .i64 A.e] 34)).heap[w1.heap.size]? = some (.cells #[.string A.s, .int .i64 A.n, .int .i64 A.i0, .int .i64 A.i1, .int .i64 A.i2, .int .i64 A.i3, .string A.iname, .int .i64 A.isz, .slice ao1 LN c1, .bool A.bad, .bool false, .string A.op, .string A.nm, .int .i64 A.e] 34 (0, 0)) := (hbB.block _ (by have := HA1.out.2; omega)).trans hA2
      obtain ⟨⟨x0, x1, x2, x3, x4, x5, x6, x7, x8, x9, x10, x11, x12, x13⟩, -⟩ := at14 hA3
      have HK1 : Hid (Calls Tryz.prog 17 #[.agg #[.string A.s, .int .i64 A.n, .int .i64 A.i0, .int .i64 A.i1, .int .i64 A.i2, .int .i64 A.i3, .string A.iname, .int .i64 A.isz, .slice ao1 LN c1, .bool A.bad, .bool false, .string A.op, .string A.nm, .int .i64 A.e], .agg #[.string A.s, .int .i64 A.n, .int .i64 A.i0, .int .i64 A.i1, .int .i64 A.i2, .int .i64 A.i3, .string A.iname, .int .i64 A.isz, .slice ao2 LN c2, .bool A.bad, .bool false, .string A.op, .string A.nm, .int .i64 A.e]] (w2.alloc (.cells #[.string A.s, .int .i64 A.n, .int .i64 A.i0, .int .i64 A.i1, .int .i64 A.i2, .int .i64 A.i3, .string A.iname, .int .i64 A.isz, .slice ao2 LN c2, .bool A.bad, .bool false, .string A.op, .string A.nm, .int .i64 A.e] 34)) fun r w' => r = .returned (.bool true) ∧ Below (w2.alloc (.cells #[.string A.s, .int .i64 A.n, .int .i64 A.i0, .int .i64 A.i1, .int .i64 A.i2, .int .i64 A.i3, .string A.iname, .int .i64 A.isz, .slice ao2 LN c2, .bool A.bad, .bool false, .string A.op, .string A.nm, .int .i64 A.e] 34)).heap.size (w2.alloc (.cells #[.string A.s, .int .i64 A.n, .int .i64 A.i0, .int .i64 A.i1, .int .i64 A.i2, .int .i64 A.i3, .string A.iname, .int .i64 A.isz, .slice ao2 LN c2, .bool A.bad, .bool false, .string A.op, .string A.nm, .int .i64 A.e] 34)) w') := by
        have g1 := hr1'.on hbB
        have g2 := hr2'.on hbB
        have := HAK.out A ao1 ao2 c1 c2 _ HLL.out (by rw [← HLN2.out]; exact g1) (by rw [← HLN2.out]; exact g2)
        unfold ansV at this
        rw [← HLN2.out] at this
        exact this
      have HT2 : Hid (T2D PS U va vb (x.plays ((ops.take (k + 1)).map Opv.c)) (y.plays ((ops.take (k + 1)).map Opv.c)) w (w2.alloc (.cells #[.string A.s, .int .i64 A.n, .int .i64 A.i0, .int .i64 A.i1, .int .i64 A.i2, .int .i64 A.i3, .string A.iname, .int .i64 A.isz, .slice ao2 LN c2, .bool A.bad, .bool false, .string A.op, .string A.nm, .int .i64 A.e] 34))) := HTB.out _ _ _ _ ht2 hbB
      clear hr1' hr2' hkeep hsz hA2 hbB hA3 ht2 HS2 d0 d1 d2 d3 d4 d5 d6 d7 d8 d9 e0 e1 e2 e3 e4 e5 e6 e7 e8 e9
      go_wp2_with (go_at_call 17; refine HK1.out.mono ?_; rintro r w3 ⟨rfl, hb3⟩)
      go_roundw
      case rel => exact ⟨k + 1, by go_num, by omega, HTB.out _ _ _ _ HT2.out hb3⟩
      case measure => simp [intOf]; omega
    · obtain rfl : k = n := by omega
      have b1 : decide ((k : Int) < (k : Int)) = false := by simp
      obtain ⟨ht2, q1, q2, L, a1, c1, a2, c2, z1, z2⟩ := HEND.out wr ht
      have HT2 : Hid (T2D PS U va vb (x.plays (ops.map Opv.c)) (y.plays (ops.map Opv.c)) w wr) := ht2
      have bl : ((L : Int) == (L : Int)) = true := by simp
      clear ht ht2
      go_wp2_with fail
      go_quiet (fail)
      go_wp2
      go_ret
      exact ⟨rfl, HTB.out _ _ _ _ HT2.out (below_drewN' _ _)⟩
end
end Go.Proofs.YtjbphheojfclcaaGreat
