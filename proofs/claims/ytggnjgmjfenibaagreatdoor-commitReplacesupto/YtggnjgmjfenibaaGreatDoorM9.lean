import Derived.Test.YtggnjgmjfenibaaGreatDoorM1
import Derived.Test.YtggnjgmjfenibaaGreatDoorM8
import Derived.Deep.RegionWith
import Derived.Deep.CutRange

-- A script of calls, in memory.
namespace Go.Proofs.YtggnjgmjfenibaaGreatDoor
open Go.RowKit
set_option linter.unusedVariables false
structure Opv where
  kind : Int
  n : Int
  a : ByteArray
  b : ByteArray
  m0 : Int
  m1 : Int
  m2 : Int
  m3 : Int
  pv : Value
  cv : Value
  plan : List Flt
  cuts : List Int
def Opv.v (o : Opv) : Value := .agg #[.int .i64 o.kind, .int .i64 o.n, .string o.a, .string o.b, .int .i64 o.m0, .int .i64 o.m1, .int .i64 o.m2, .int .i64 o.m3, o.pv, o.cv]
/-- What is asked of a call's arguments. -/
structure OpvOk (B : Nat) (o : Opv) (w : World) : Prop where
  row : RowI w o.cv o.cuts
  low : o.cuts ≠ [] → ∀ k, o.cv.ownBlock = some k → k < B
  few : o.cuts.length ≤ 2097152
  small : o.a.size ≤ 2097152
  prow : RowP w o.pv o.plan
  plow : o.plan ≠ [] → ∀ k, o.pv.ownBlock = some k → k < B
  pfew : o.plan.length ≤ 2097152
def OpvAt (w : World) (b off : Nat) (o : Opv) : Prop :=
  w.cell? ⟨b, off, none⟩ = some (.int .i64 o.kind) ∧ w.cell? ⟨b, off + 1, none⟩ = some (.int .i64 o.n) ∧ w.cell? ⟨b, off + 2, none⟩ = some (.string o.a) ∧ w.cell? ⟨b, off + 3, none⟩ = some (.string o.b) ∧
  w.cell? ⟨b, off + 4, none⟩ = some (.int .i64 o.m0) ∧ w.cell? ⟨b, off + 5, none⟩ = some (.int .i64 o.m1) ∧ w.cell? ⟨b, off + 6, none⟩ = some (.int .i64 o.m2) ∧ w.cell? ⟨b, off + 7, none⟩ = some (.int .i64 o.m3) ∧ w.cell? ⟨b, off + 8, none⟩ = some o.pv ∧ w.cell? ⟨b, off + 9, none⟩ = some o.cv
/-- A script that came in. -/
def RowV (w : World) (v : Value) (l : List Opv) : Prop :=
  (l = [] ∧ ∃ ao c, v = .slice ao 0 c) ∨ ∃ b off cap, v = .slice (some ⟨b, off, none⟩) l.length cap ∧ b < w.heap.size ∧ ∀ (j : Nat) (o : Opv), l[j]? = some o → OpvAt w b (off + j * 10) o
theorem RowV.form {w : World} {v : Value} {l : List Opv} (h : RowV w v l) : ∃ ao cap, v = .slice ao l.length cap := by
  rcases h with ⟨rfl, ao, c, rfl⟩ | ⟨b, off, cap, rfl, _⟩
  · exact ⟨_, _, rfl⟩
  · exact ⟨_, _, rfl⟩
theorem OpvAt.below {w w' : World} {b off : Nat} {o : Opv} {B : Nat} (h : OpvAt w b off o) (hb : Below B w w') (hB : b < B) : OpvAt w' b off o := by
  have key : ∀ k v, w.cell? ⟨b, k, none⟩ = some v → w'.cell? ⟨b, k, none⟩ = some v := fun k v hv => (World.cell?_of_block (a := ⟨b, k, none⟩) (hb.block b hB)).trans hv
  obtain ⟨h0, h1, h2, h3, h4, h5, h6, h7, h8, h9⟩ := h
  exact ⟨key _ _ h0, key _ _ h1, key _ _ h2, key _ _ h3, key _ _ h4, key _ _ h5, key _ _ h6, key _ _ h7, key _ _ h8, key _ _ h9⟩
theorem RowP.below {w w' : World} {v : Value} {l : List Flt} {B : Nat} (h : RowP w v l) (hb : Below B w w') (hl : l ≠ [] → ∀ k, v.ownBlock = some k → k < B) : RowP w' v l := by
  rcases h with h | ⟨b, off, cap, rfl, hbl, hc⟩
  · exact .inl h
  · refine .inr ⟨b, off, cap, rfl, Nat.lt_of_lt_of_le hbl hb.size, fun j f hj => ?_⟩
    have hne : l ≠ [] := fun e => by rw [e] at hj; simp at hj
    have hbb := hb.block b (hl hne b rfl)
    obtain ⟨h1, h2, h3⟩ := hc j f hj
    exact ⟨(World.cell?_of_block (a := ⟨b, _, none⟩) hbb).trans h1, (World.cell?_of_block (a := ⟨b, _, none⟩) hbb).trans h2, (World.cell?_of_block (a := ⟨b, _, none⟩) hbb).trans h3⟩
theorem OpvOk.below {B B' : Nat} {o : Opv} {w w' : World} (h : OpvOk B o w) (hb : Below B w w') (hB : B ≤ B') : OpvOk B' o w' :=
  ⟨h.row.below hb h.low, fun hne k hk => Nat.lt_of_lt_of_le (h.low hne k hk) hB, h.few, h.small, h.prow.below hb h.plow, fun hne k hk => Nat.lt_of_lt_of_le (h.plow hne k hk) hB, h.pfew⟩
theorem OpvOk.slices {B : Nat} {o : Opv} {w : World} (h : OpvOk B o w) : (∃ ao cl cp, o.pv = .slice ao cl cp) ∧ ∃ ao cl cp, o.cv = .slice ao cl cp := by
  refine ⟨?_, ?_⟩
  · obtain ⟨ao, cp, h⟩ := h.prow.form; exact ⟨_, _, _, h⟩
  · rcases h.row with ⟨_, ao, c, h⟩ | ⟨b, off, cap, h, _⟩
    · exact ⟨_, _, _, h⟩
    · exact ⟨_, _, _, h⟩
end Go.Proofs.YtggnjgmjfenibaaGreatDoor

-- One step on both volumes.
namespace Go.Proofs.YtggnjgmjfenibaaGreatDoor
open Go.RowKit
set_option linter.unusedVariables false
set_option maxRecDepth 100000
variable {PS : (Nat → Prop) → Nat → St → World → Prop}
/-- Both volumes alike, behind k calls. -/
def Bk (PS : (Nat → Prop) → Nat → St → World → Prop) (B q r k : Nat) (w : World) : Prop := ∃ v L, Bs PS B q r v v (fun _ => False) L w ∧ Vf v k
theorem Bs.bk {B q r k L : Nat} {v : Vs} {S : Nat → Prop} {w : World} (h : Bs PS B q r v v S L w) (hv : Vf v k) : Bk PS B q r k w := ⟨v, L, h.sub (fun _ h' => h'.elim), hv⟩
theorem Bk.below (C : PC PS) {B q r k : Nat} {w w' : World} (h : Bk PS B q r k w) (hb : Below w.heap.size w w') : Bk PS B q r k w' := by
  obtain ⟨v, L, h1, h2⟩ := h
  exact ⟨v, L, h1.below C hb, h2⟩
theorem Bk.low {B q r k : Nat} {w : World} (h : Bk PS B q r k w) : B ≤ w.heap.size := by
  obtain ⟨v, L, h1, h2⟩ := h
  exact h1.low
theorem Bk.mono {B q r k k' : Nat} {w : World} (h : Bk PS B q r k w) (hk : k ≤ k') : Bk PS B q r k' w := by
  obtain ⟨v, L, h1, h2⟩ := h
  exact ⟨v, L, h1, h2.mono hk⟩
theorem fillN_at (x : Hd) (data : ByteArray) (n : Nat) : ∀ k v, 4 ≤ (Vs.fillN x data n k v).1.2 ∧ (Vs.fillN x data n k v).1.2 ≤ 5 := by
  induction n with
  | zero => intro k v; unfold Vs.fillN; simp
  | succ n ih =>
    intro k v
    unfold Vs.fillN
    split
    · simp
    · exact ih _ _
theorem repl_at (v : Vs) (a b : ByteArray) (m0 m1 m2 m3 : Int) : (v.replace a b m0 m1 m2 m3).1.2 ≤ 7 ∧ ((v.replace a b m0 m1 m2 m3).1.1 ≠ 0 → (v.replace a b m0 m1 m2 m3).1.2 ≠ 0) := by
  unfold Vs.replace
  split
  · simp
  · split
    · simp
    · split
      · simp
      · have hx := exch_at v.syncDir.2 a b m0 m1 m2 m3
        unfold Vs.lastly
        split
        · exact ⟨by omega, fun _ => by omega⟩
        · split <;> simp
set_option maxHeartbeats 8000000 in
theorem acts1 (C : PC PS) (B q r k : Nat) (n : Int) (a b : ByteArray) (m0 m1 m2 m3 : Int) (po : Option Addr) (pl pc : Nat) (co : Option Addr) (cl cc : Nat) (w : World) (h : Bk PS B q r k w) (hk : k < 2097151) :
    Calls Tryz.prog 9 #[.pointer (some ⟨q, 0, none⟩), .pointer (some ⟨r, 0, none⟩), .agg #[.int .i64 1, .int .i64 n, .string a, .string b, .int .i64 m0, .int .i64 m1, .int .i64 m2, .int .i64 m3, .slice po pl pc, .slice co cl cc]] w fun e w' => e = .returned (.bool true) ∧ Bk PS B q r (k + 1) w' ∧ Below B w w' := by
  obtain ⟨v, L, hb0, hv⟩ := h
  have hB := hb0.low
  obtain ⟨W0, hW0⟩ : ∃ W0, W0 = w.alloc (Obj.cells #[.int .i64 1, .int .i64 n, .string a, .string b, .int .i64 m0, .int .i64 m1, .int .i64 m2, .int .i64 m3, .slice po pl pc, .slice co cl cc] 34) := ⟨_, rfl⟩
  have hbA : Below w.heap.size w W0 := by rw [hW0]; exact (Below.refl _ w).alloc (Nat.le_refl _) _
  obtain ⟨S0, hS0⟩ : ∃ S0 : Nat → Prop, S0 = fun k => False ∨ (w.heap.size ≤ k ∧ k < W0.heap.size) := ⟨_, rfl⟩
  have hs0 : Bs PS B q r v v S0 L W0 := by rw [hS0]; exact hb0.grow C hbA
  have hx0 : W0.heap[w.heap.size]? = some (.cells #[.int .i64 1, .int .i64 n, .string a, .string b, .int .i64 m0, .int .i64 m1, .int .i64 m2, .int .i64 m3, .slice po pl pc, .slice co cl cc] 34 (0, 0)) := by rw [hW0]; exact heap_alloc_new _ _
  have hin : S0 w.heap.size := by rw [hS0]; exact .inr ⟨Nat.le_refl _, by rw [hW0]; simp⟩
  have HC : Hid (∀ W, Beside B S0 W0 W → W.cell? ⟨w.heap.size, 0, none⟩ = some (.int .i64 1) ∧ W.cell? ⟨w.heap.size, 2, none⟩ = some (.string a)) := fun W hW => by
    have hh := (hW.set _ hin).trans hx0
    refine ⟨?_, ?_⟩ <;> (rw [Lib.cell_of_heap hh]; rfl)
  have HW0 := hidK hW0
  have HB0 : Hid (Below B w W0) := hbA.mono hB
  have hcn : v.cnt ≤ 4194304 := by have := hv.cnt; omega
  obtain ⟨D, hD⟩ : ∃ x, x = (if (v.read a).1.2 = 0 then (v.read a).1.1 else ⟨#[]⟩) := ⟨_, rfl⟩
  obtain ⟨T, hT⟩ : ∃ x, x = decide ((v.read a).1.2 = 0) := ⟨_, rfl⟩
  obtain ⟨E, hE⟩ : ∃ x, x = (if (v.read a).1.2 = 30 then 0 else (v.read a).1.2) := ⟨_, rfl⟩
  obtain ⟨V, hV⟩ : ∃ x, x = (v.read a).2 := ⟨_, rfl⟩
  have hvV : Vf V (k + 1) := by rw [hV]; exact hv.read a
  have HP : Hid (Calls Tryz.prog 19 #[.pointer (some ⟨q, 0, none⟩), .string a] W0 fun e w' => ∃ ev, e = .returned (.tuple #[.string D, .bool T, ev]) ∧ ErrIs w' W0.heap.size ⟨#[114, 101, 97, 100]⟩ a E ev ∧ Bs PS B q r V v S0 W0.heap.size w' ∧ Beside B S0 W0 w') := by
    have := bs_load C B q r v v S0 L a W0 hs0 hv.wf hcn
    rw [← hD, ← hT, ← hE, ← hV] at this; exact this
  have HR : Hid (∀ w1, Bs PS B q r V v S0 W0.heap.size w1 → Calls Tryz.prog 20 #[.pointer (some ⟨r, 0, none⟩), .string a] w1 fun e w' => e = .returned (.tuple #[.string D, .bool T, .int .i64 (E : Int)]) ∧ Bs PS B q r V V S0 w'.heap.size w' ∧ Beside B S0 w1 w' ∧ ∀ op nm e ev, ErrIs w1 W0.heap.size op nm e ev → ErrIs w' W0.heap.size op nm e ev) := fun w1 h1 => by
    have := bs_rload C B q r V v S0 W0.heap.size a w1 h1 hv.wf hcn
    rw [← hD, ← hT, ← hE, ← hV] at this; exact this
  have HT : Hid (∀ ev W, ErrIs W W0.heap.size ⟨#[114, 101, 97, 100]⟩ a E ev → Calls Tryz.prog 21 #[ev, .string ⟨#[114, 101, 97, 100]⟩, .string a, .int .i64 (E : Int)] W fun r w' => r = .returned (.bool true) ∧ Alike W w') := fun ev W he => told16_c _ _ _ _ _ _ he
  have HF : Hid (∀ w2 w3 : World, Bs PS B q r V V S0 w2.heap.size w2 → Alike w2 w3 → Bk PS B q r (k + 1) w3) := fun w2 w3 h2 hA => (h2.below C hA.below).bk hvV
  have b1 : (D.toList == D.toList) = true := by simp
  have b2 : (T == T) = true := by simp
  clear hs0 hx0 hin hbA hb0 hv hvV hcn hD hT hE hV hW0 hS0
  go_enter Tryz.func9, Tryz.ntmps9
  go_upto_region 2 with fail
  rw [← HW0.out]
  obtain ⟨s0, s2⟩ := HC.out W0 (Beside.refl _ _ _)
  go_upto_region 3 with (go_at_call 19; refine HP.out.mono ?_; rintro e w1 ⟨ev, rfl, he1, hb1, hk1⟩)
  clear s0 s2
  obtain ⟨s0, s2⟩ := HC.out w1 hk1
  go_upto_region 4 with (go_at_call 20; refine (HR.out w1 hb1).mono ?_; rintro e w2 ⟨rfl, hb2, hk2, he2⟩)
  clear s0 s2
  obtain ⟨s0, s2⟩ := HC.out w2 (hk1.trans hk2)
  have he3 := he2 _ _ _ _ he1
  clear he2 he1
  go_wp2_with (go_at_call 21; refine (HT.out _ _ he3).mono ?_; rintro e w3 ⟨rfl, hA3⟩)
  go_returns
  exact ⟨rfl, HF.out w2 w3 hb2 hA3, (HB0.out.trans (hk1.trans hk2).below).trans (hA3.below.mono hb2.low)⟩
set_option maxHeartbeats 8000000 in
theorem acts2 (C : PC PS) (B q r k : Nat) (n : Int) (a b : ByteArray) (m0 m1 m2 m3 : Int) (po : Option Addr) (pl pc : Nat) (co : Option Addr) (cl cc : Nat) (w : World) (h : Bk PS B q r k w) (hk : k + nP b + 8 < 2097151) (hbs : b.size ≤ 140737488355328) (has : a.size ≤ 140737488355328) :
    Calls Tryz.prog 9 #[.pointer (some ⟨q, 0, none⟩), .pointer (some ⟨r, 0, none⟩), .agg #[.int .i64 2, .int .i64 n, .string a, .string b, .int .i64 m0, .int .i64 m1, .int .i64 m2, .int .i64 m3, .slice po pl pc, .slice co cl cc]] w fun e w' => e = .returned (.bool true) ∧ Bk PS B q r (k + nP b + 6) w' ∧ Below B w w' := by
  obtain ⟨v, L, hb0, hv⟩ := h
  have hB := hb0.low
  obtain ⟨W0, hW0⟩ : ∃ W0, W0 = w.alloc (Obj.cells #[.int .i64 2, .int .i64 n, .string a, .string b, .int .i64 m0, .int .i64 m1, .int .i64 m2, .int .i64 m3, .slice po pl pc, .slice co cl cc] 34) := ⟨_, rfl⟩
  have hbA : Below w.heap.size w W0 := by rw [hW0]; exact (Below.refl _ w).alloc (Nat.le_refl _) _
  obtain ⟨S0, hS0⟩ : ∃ S0 : Nat → Prop, S0 = fun k => False ∨ (w.heap.size ≤ k ∧ k < W0.heap.size) := ⟨_, rfl⟩
  have hs0 : Bs PS B q r v v S0 L W0 := by rw [hS0]; exact hb0.grow C hbA
  have hx0 : W0.heap[w.heap.size]? = some (.cells #[.int .i64 2, .int .i64 n, .string a, .string b, .int .i64 m0, .int .i64 m1, .int .i64 m2, .int .i64 m3, .slice po pl pc, .slice co cl cc] 34 (0, 0)) := by rw [hW0]; exact heap_alloc_new _ _
  have hin : S0 w.heap.size := by rw [hS0]; exact .inr ⟨Nat.le_refl _, by rw [hW0]; simp⟩
  have HC : Hid (∀ W, Beside B S0 W0 W → W.cell? ⟨w.heap.size, 0, none⟩ = some (.int .i64 2) ∧ W.cell? ⟨w.heap.size, 2, none⟩ = some (.string a) ∧ W.cell? ⟨w.heap.size, 3, none⟩ = some (.string b) ∧ W.cell? ⟨w.heap.size, 4, none⟩ = some (.int .i64 m0) ∧ W.cell? ⟨w.heap.size, 5, none⟩ = some (.int .i64 m1) ∧ W.cell? ⟨w.heap.size, 6, none⟩ = some (.int .i64 m2) ∧ W.cell? ⟨w.heap.size, 7, none⟩ = some (.int .i64 m3)) := fun W hW => by
    have hh := (hW.set _ hin).trans hx0
    refine ⟨?_, ?_, ?_, ?_, ?_, ?_, ?_⟩ <;> (rw [Lib.cell_of_heap hh]; rfl)
  have HW0 := hidK hW0
  have HB0 : Hid (Below B w W0) := hbA.mono hB
  have hcn : v.cnt ≤ 4194304 := by have := hv.cnt; omega
  obtain ⟨E, hE⟩ : ∃ x, x = (v.replace a b m0 m1 m2 m3).1.1 := ⟨_, rfl⟩
  obtain ⟨A, hA⟩ : ∃ x, x = (v.replace a b m0 m1 m2 m3).1.2 := ⟨_, rfl⟩
  obtain ⟨V, hV⟩ : ∃ x, x = (v.replace a b m0 m1 m2 m3).2 := ⟨_, rfl⟩
  have hvV : Vf V (k + nP b + 6) := by rw [hV]; exact hv.replace a b (by omega) m0 m1 m2 m3
  have hA7 : A ≤ 7 ∧ (E ≠ 0 → A ≠ 0) := by rw [hA, hE]; exact repl_at v a b m0 m1 m2 m3
  have HP : Hid (Calls Tryz.prog 22 #[.pointer (some ⟨q, 0, none⟩), .string a, .string b, .agg #[.int .i64 m0, .int .i64 m1, .int .i64 m2, .int .i64 m3]] W0 fun e w' => ∃ ev, e = .returned ev ∧ ErrIs w' W0.heap.size (opR A) (nmR A a) E ev ∧ Bs PS B q r V v S0 W0.heap.size w' ∧ Beside B S0 W0 w') := by
    have := bs_repl C B q r v v S0 L a b m0 m1 m2 m3 W0 k hs0 hv hk hbs
    rw [← hE, ← hA, ← hV] at this; exact this
  have HR : Hid (∀ w1, Bs PS B q r V v S0 W0.heap.size w1 → Calls Tryz.prog 23 #[.pointer (some ⟨r, 0, none⟩), .string a, .string b, .agg #[.int .i64 m0, .int .i64 m1, .int .i64 m2, .int .i64 m3]] w1 fun e w' => e = .returned (.tuple #[.int .i64 (E : Int), .int .i64 (A : Int)]) ∧ Bs PS B q r V V S0 w'.heap.size w' ∧ Beside B S0 w1 w' ∧ ∀ op nm e ev, ErrIs w1 W0.heap.size op nm e ev → ErrIs w' W0.heap.size op nm e ev) := fun w1 h1 => by
    have := bs_told C B q r V v S0 W0.heap.size a b m0 m1 m2 m3 w1 k h1 hv hk hbs has
    rw [← hE, ← hA, ← hV] at this; exact this
  have HI : Hid (∀ W, Calls Tryz.prog 24 #[.int .i64 (A : Int), .string a] W fun e w' => ∃ o nn, e = .returned (.tuple #[.string o, .string nn]) ∧ (∀ ev, ErrIs W W0.heap.size (opR A) (nmR A a) E ev → ErrIs w' W0.heap.size o nn E ev) ∧ Below W.heap.size W w') := fun W => by
    refine (inner_c A a W hA7.1).mono ?_
    rintro e w' ⟨o, nn, rfl, h1, h2⟩
    refine ⟨o, nn, rfl, fun ev he => ?_, h2⟩
    by_cases h0 : E = 0
    · rcases he with he | ⟨he, _⟩
      · exact .inl he
      · exact absurd h0 he
    · obtain ⟨rfl, rfl⟩ := h1 (hA7.2 h0)
      exact he.below h2
  have HT : Hid (∀ o nn ev W, ErrIs W W0.heap.size o nn E ev → Calls Tryz.prog 21 #[ev, .string o, .string nn, .int .i64 (E : Int)] W fun r w' => r = .returned (.bool true) ∧ Alike W w') := fun o nn ev W he => told16_c _ _ _ _ _ _ he
  have HF : Hid (∀ w2 w3 w4 : World, Bs PS B q r V V S0 w2.heap.size w2 → Below w2.heap.size w2 w3 → Alike w3 w4 → Bk PS B q r (k + nP b + 6) w4) := fun w2 w3 w4 h2 hb hA => ((h2.below C hb).below C hA.below).bk hvV
  clear hs0 hx0 hin hbA hb0 hv hvV hcn hE hA hV hW0 hS0 hA7
  go_enter Tryz.func9, Tryz.ntmps9
  go_upto_region 6 with fail
  rw [← HW0.out]
  obtain ⟨s0, s2, s3, s4, s5, s6, s7⟩ := HC.out W0 (Beside.refl _ _ _)
  go_upto_region 7 with (go_at_call 22; refine HP.out.mono ?_; rintro e w1 ⟨ev, rfl, he1, hb1, hk1⟩)
  clear s0 s2 s3 s4 s5 s6 s7
  obtain ⟨s0, s2, s3, s4, s5, s6, s7⟩ := HC.out w1 hk1
  go_upto_region 8 with (go_at_call 23; refine (HR.out w1 hb1).mono ?_; rintro e w2 ⟨rfl, hb2, hk2, he2⟩)
  clear s0 s2 s3 s4 s5 s6 s7
  obtain ⟨s0, s2, s3, s4, s5, s6, s7⟩ := HC.out w2 (hk1.trans hk2)
  have he3 := he2 _ _ _ _ he1
  clear he2 he1 s3 s4 s5 s6 s7
  go_upto_region 9 with (go_at_call 24; refine (HI.out w2).mono ?_; rintro e w3 ⟨o, nn, rfl, he4, hb3⟩)
  have he5 := he4 _ he3
  clear he4 he3
  go_wp2_with (go_at_call 21; refine (HT.out _ _ _ _ he5).mono ?_; rintro e w4 ⟨rfl, hA4⟩)
  go_returns
  have hl2 := hb2.low
  exact ⟨rfl, HF.out w2 w3 w4 hb2 hb3 hA4, ((HB0.out.trans (hk1.trans hk2).below).trans (hb3.mono hl2)).trans (hA4.below.mono (by have := hb3.size; omega))⟩
end Go.Proofs.YtggnjgmjfenibaaGreatDoor
