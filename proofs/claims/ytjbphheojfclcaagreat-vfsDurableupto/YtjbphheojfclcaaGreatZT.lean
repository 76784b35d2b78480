
-- What is done on the second of two Vols, and on both, told from a world on.
import Derived.Test.YtjbphheojfclcaaGreatZI
namespace Go.Proofs.YtjbphheojfclcaaGreat
open Go.RowKit
set_option linter.unusedVariables false
set_option maxRecDepth 100000
variable {PS : (Nat → Prop) → Nat → St → World → Prop}
section
variable {U : Nat → Prop} {va vb : Nat} {x y : Vl} {w W : World}
theorem RowV.on {w W : World} {v : Value} {l : List Opv} (h : RowV w v l) (hb : Below w.heap.size w W) : RowV W v l := by
  rcases h with h | ⟨b, off, cap, hv, hlt, hc⟩
  · exact .inl h
  · exact .inr ⟨b, off, cap, hv, Nat.lt_of_lt_of_le hlt hb.size, fun j o hj => (hc j o hj).below hb hlt⟩
theorem RowV.ownlt {w : World} {v : Value} {l : List Opv} (h : RowV w v l) (hne : l ≠ []) : ∀ k, v.ownBlock = some k → k < w.heap.size := by
  rcases h with ⟨h, _⟩ | ⟨b, off, cap, rfl, hlt, hc⟩
  · exact absurd h hne
  · intro k hk
    simp only [Value.ownBlock, Option.some.injEq] at hk
    omega
/-- What is done on the second, behind new blocks. -/
theorem T2.sec (C : PC PS) (h : T2 PS U va vb x y W) : ∃ S2, VA PS S2 vb y W ∧ (∀ k, S2 k → U k) ∧ ∀ W' y' w', Below W.heap.size W W' → VAD PS S2 vb y' W' w' → T2D PS U va vb x y' W w' := by
  obtain ⟨S1, S2, g1, g2, g3, g4, g5, g6⟩ := h
  refine ⟨S2, g2, g5, fun W' y' w' hb hd => ?_⟩
  have hs := hb.size
  have hs2 := hd.2.size
  refine ⟨⟨S1, ext S2 W' w', (g1.below C hb).same C hs2 (fun k hk => hd.2.block k (by have := g1.low k hk; omega) (g3 k hk)), hd.1, fun k h1 h2 => ?_, fun k hk => .inl (g4 k hk), fun k hk => ?_, fun k hk => ?_⟩, (Kp.of_below hb).trans (hd.2.mono' g5)⟩
  · rcases h2 with h2 | h2
    · exact g3 k h1 h2
    · have := g1.low k h1; omega
  · rcases hk with hk | hk
    · exact .inl (g5 k hk)
    · exact .inr ⟨by omega, hk.2⟩
  · rcases hk with hk | hk
    · have := g6 k hk; omega
    · exact hk.2
theorem T2.fst (C : PC PS) (h : T2 PS U va vb x y W) : ∃ S1, VA PS S1 va x W ∧ (∀ k, S1 k → U k) ∧ ∀ W' x' w', Below W.heap.size W W' → VAD PS S1 va x' W' w' → T2D PS U va vb x' y W w' := by
  obtain ⟨S1, h1, h2, h3⟩ := h.flip.sec C
  exact ⟨S1, h1, h2, fun W' x' w' hb hd => ⟨(h3 W' x' w' hb hd).1.flip, (h3 W' x' w' hb hd).2⟩⟩
/-- The second's own calls. -/
theorem T2D.face (C : PC PS) (h : T2D PS U va vb x y w W) : ∃ q, W.cell? ⟨vb, 0, none⟩ = some (.pointer (some ⟨q, 0, none⟩)) ∧
    (∀ W' plan pv, Below W.heap.size W W' → RowP W' pv plan → (plan ≠ [] → ∀ k, pv.ownBlock = some k → W.heap.size ≤ k) → plan.length ≤ 4194304 → Calls Tryz.prog 16 #[.pointer (some ⟨q, 0, none⟩), pv] W' fun e w' => e = .returned (.tuple #[]) ∧ T2D PS U va vb x (y.arm plan) w w') ∧
    (∀ W', Below W.heap.size W W' → Calls Tryz.prog 22 #[.pointer (some ⟨q, 0, none⟩)] W' fun e w' => e = .returned (.int .i64 y.v.cnt) ∧ w' = W') ∧
    (∀ W', Below W.heap.size W W' → Calls Tryz.prog 23 #[.pointer (some ⟨q, 0, none⟩)] W' fun e w' => e = .returned (.bool y.v.off) ∧ w' = W') := by
  obtain ⟨S2, h1, h2, h3⟩ := h.1.sec C
  obtain ⟨q, hq, f1, f2, f3⟩ := h1.face C
  refine ⟨q, hq, fun W' plan pv hb hp hpf hl => ?_, f2, f3⟩
  refine (f1 W' plan pv hb hp (fun hne k hk hS => by have := hpf hne k hk; have := h1.low k hS; omega) hl).mono ?_
  rintro e w' ⟨rfl, hd⟩
  exact ⟨rfl, h.then (h3 _ _ _ hb hd)⟩
/-- A step of the second. -/
theorem T2D.call (C : PC PS) (h : T2D PS U va vb x y w W) {k : Nat} (hk : Vlf y k) (hkk : k < 2097151) (o : Opv) (ho : OkC o) {W' : World} (hb : Below W.heap.size W W') :
    Calls Tryz.prog 11 #[.pointer (some ⟨vb, 0, none⟩), o.v] W' fun e w' => ∃ ao c, e = .returned (.agg (ansV (y.call o.c).1 (.slice ao (y.call o.c).1.l.length c))) ∧ T2D PS U va vb x (y.call o.c).2 w w' := by
  obtain ⟨S2, h1, h2, h3⟩ := h.1.sec C
  refine (call_c C S2 vb y k o W' (h1.below C hb) hk hkk ho.pv ho.cv ho.small).mono ?_
  rintro e w' ⟨ao, c, rfl, hd, hr⟩
  exact ⟨ao, c, rfl, h.then (h3 _ _ _ hb hd)⟩
/-- A step of the first. -/
theorem T2D.call1 (C : PC PS) (h : T2D PS U va vb x y w W) {k : Nat} (hk : Vlf x k) (hkk : k < 2097151) (o : Opv) (ho : OkC o) {W' : World} (hb : Below W.heap.size W W') :
    Calls Tryz.prog 11 #[.pointer (some ⟨va, 0, none⟩), o.v] W' fun e w' => ∃ ao c, e = .returned (.agg (ansV (x.call o.c).1 (.slice ao (x.call o.c).1.l.length c))) ∧ T2D PS U va vb (x.call o.c).2 y w w' ∧ w'.ownsRow W'.heap.size 9 1 (.slice ao (x.call o.c).1.l.length c) (x.call o.c).1.l.length (strV (x.call o.c).1.l) := by
  obtain ⟨S1, h1, h2, h3⟩ := h.1.fst C
  refine (call_c C S1 va x k o W' (h1.below C hb) hk hkk ho.pv ho.cv ho.small).mono ?_
  rintro e w' ⟨ao, c, rfl, hd, hr⟩
  exact ⟨ao, c, rfl, h.then (h3 _ _ _ hb hd), hr⟩
/-- A script on both. -/
theorem T2D.both (C : PC PS) (h : T2D PS U va vb x y w W) (hs : Sim x y) {k0 : Nat} (fx : Vlf x k0) (fy : Vlf y k0) {sv : Value} {ops : List Opv} {W' : World} (hb : Below W.heap.size W W') (hv : RowV W' sv ops) (hn : ops ≠ [] → ∀ k, sv.ownBlock = some k → ¬ ext U w W k) (hok : ∀ o ∈ ops, OkC o) (hk0 : k0 + ops.length ≤ 2097151) :
    Calls Tryz.prog 14 #[.pointer (some ⟨va, 0, none⟩), .pointer (some ⟨vb, 0, none⟩), sv] W' fun e w' => e = .returned (.bool true) ∧ T2D PS U va vb (x.plays (ops.map Opv.c)) (y.plays (ops.map Opv.c)) w w' := by
  refine (both_c C (ext U w W) va vb x y k0 sv ops W' (h.1.below C hb) hs fx fy hv hn hok hk0).mono ?_
  rintro e w' ⟨rfl, hd⟩
  have hs := hb.size
  refine ⟨rfl, h.then ⟨hd.1.mono (fun k hk => ?_) (fun k hk => ?_), (Kp.of_below hb).trans hd.2⟩⟩
  · rcases hk with hk | hk
    · exact .inl hk
    · exact .inr ⟨by omega, hk.2⟩
  · have := hd.2.size
    rcases hk with hk | hk
    · have := h.1.low k hk; omega
    · exact hk.2
/-- Is a step one that would be counted? -/
theorem T2D.can (C : PC PS) (h : T2D PS U va vb x y w W) {k : Nat} (hk : Vlf y k) (hkk : k < 2097151) (K n : Int) (a b : ByteArray) (m0 m1 m2 m3 : Int) (po : Option Addr) (pl pc : Nat) (co : Option Addr) (cl cc : Nat) {W' : World} (hb : Below W.heap.size W W') :
    Calls Tryz.prog 21 #[.pointer (some ⟨vb, 0, none⟩), .agg #[.int .i64 K, .int .i64 n, .string a, .string b, .int .i64 m0, .int .i64 m1, .int .i64 m2, .int .i64 m3, .slice po pl pc, .slice co cl cc]] W' fun e w' => e = .returned (.bool (y.can ⟨K, n, a, b, m0, m1, m2, m3⟩)) ∧ T2D PS U va vb x y w w' ∧ Below W'.heap.size W' w' := by
  obtain ⟨S2, h1, h2, h3⟩ := h.1.sec C
  refine (callable_c S2 vb y K n a b m0 m1 m2 m3 po pl pc co cl cc W' (h1.below C hb) C (by have := hk.few; omega)).mono ?_
  rintro e w' ⟨rfl, hb2⟩
  exact ⟨rfl, (h.below C hb).below C hb2, hb2⟩
/-- A block beside them is written. -/
theorem T2D.beside (C : PC PS) (h : T2D PS U va vb x y w W) {r : Nat} (hr : r < w.heap.size) (hU : ¬ U r) {W' : World} (hsz : W'.heap.size = W.heap.size) (ho : ∀ k, k ≠ r → W'.heap[k]? = W.heap[k]?) : T2 PS (ext U w W') va vb x y W' := by
  have := h.1.same C (w' := W') (by omega) (fun k hk => ho k fun e => by
    subst e
    rcases hk with hk | hk
    · exact hU hk
    · omega)
  refine this.mono (fun k hk => ?_) (fun k hk => ?_)
  · unfold ext at hk ⊢; rw [hsz]; exact hk
  · unfold ext at hk; rw [hsz] at hk ⊢
    rcases hk with hk | hk
    · exact h.1.low k (.inl hk)
    · exact hk.2
/-- Both are opened. -/
theorem two_open (C : PC PS) {S1 S2 : Nat → Prop} {w1 w2 : World} {c : Nat} (h1 : VA PS S1 va (Vl.new c) w1) (hb : Below w1.heap.size w1 w2) (h2 : VA PS S2 vb (Vl.new c) w2) (hd : ∀ k, S1 k → ¬ S2 k) : T2 PS (fun k => S1 k ∨ S2 k) va vb (Vl.new c) (Vl.new c) w2 :=
  ⟨S1, S2, h1.below C hb, h2, hd, fun k hk => .inl hk, fun k hk => .inr hk, fun k hk => by
    rcases hk with hk | hk
    · have := h1.low k hk; have := hb.size; omega
    · exact h2.low k hk⟩
theorem OpvOk.okc {B : Nat} {o : Opv} {w : World} (h : OpvOk B o w) : OkC o := ⟨h.slices.1, h.slices.2, by have := h.small; omega⟩
end
end Go.Proofs.YtjbphheojfclcaaGreat
