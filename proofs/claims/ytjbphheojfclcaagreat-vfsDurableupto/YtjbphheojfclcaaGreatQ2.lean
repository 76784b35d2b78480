
-- A script of calls, in memory.
import Derived.Test.YtjbphheojfclcaaGreatU13
namespace Go.Proofs.YtjbphheojfclcaaGreat
open Go.RowKit
set_option linter.unusedVariables false
structure Opv where
  kind : Int
  n : Int
  a : ByteArray
  b : ByteArray
  m0 : Int
  m1 : Int
  m2 : Int
  m3 : Int
  pv : Value
  cv : Value
  plan : List Flt
  cuts : List Int
def Opv.v (o : Opv) : Value := .agg #[.int .i64 o.kind, .int .i64 o.n, .string o.a, .string o.b, .int .i64 o.m0, .int .i64 o.m1, .int .i64 o.m2, .int .i64 o.m3, o.pv, o.cv]
/-- What is asked of a call's arguments. -/
structure OpvOk (B : Nat) (o : Opv) (w : World) : Prop where
  row : RowI w o.cv o.cuts
  low : o.cuts ≠ [] → ∀ k, o.cv.ownBlock = some k → k < B
  few : o.cuts.length ≤ 2097152
  small : o.a.size ≤ 2097152
  prow : RowP w o.pv o.plan
  plow : o.plan ≠ [] → ∀ k, o.pv.ownBlock = some k → k < B
  pfew : o.plan.length ≤ 2097152
def OpvAt (w : World) (b off : Nat) (o : Opv) : Prop :=
  w.cell? ⟨b, off, none⟩ = some (.int .i64 o.kind) ∧ w.cell? ⟨b, off + 1, none⟩ = some (.int .i64 o.n) ∧ w.cell? ⟨b, off + 2, none⟩ = some (.string o.a) ∧ w.cell? ⟨b, off + 3, none⟩ = some (.string o.b) ∧
  w.cell? ⟨b, off + 4, none⟩ = some (.int .i64 o.m0) ∧ w.cell? ⟨b, off + 5, none⟩ = some (.int .i64 o.m1) ∧ w.cell? ⟨b, off + 6, none⟩ = some (.int .i64 o.m2) ∧ w.cell? ⟨b, off + 7, none⟩ = some (.int .i64 o.m3) ∧ w.cell? ⟨b, off + 8, none⟩ = some o.pv ∧ w.cell? ⟨b, off + 9, none⟩ = some o.cv
/-- A script that came in. -/
def RowV (w : World) (v : Value) (l : List Opv) : Prop :=
  (l = [] ∧ ∃ ao c, v = .slice ao 0 c) ∨ ∃ b off cap, v = .slice (some ⟨b, off, none⟩) l.length cap ∧ b < w.heap.size ∧ ∀ (j : Nat) (o : Opv), l[j]? = some o → OpvAt w b (off + j * 10) o
theorem RowV.form {w : World} {v : Value} {l : List Opv} (h : RowV w v l) : ∃ ao cap, v = .slice ao l.length cap := by
  rcases h with ⟨rfl, ao, c, rfl⟩ | ⟨b, off, cap, rfl, _⟩
  · exact ⟨_, _, rfl⟩
  · exact ⟨_, _, rfl⟩
theorem OpvAt.below {w w' : World} {b off : Nat} {o : Opv} {B : Nat} (h : OpvAt w b off o) (hb : Below B w w') (hB : b < B) : OpvAt w' b off o := by
  have key : ∀ k v, w.cell? ⟨b, k, none⟩ = some v → w'.cell? ⟨b, k, none⟩ = some v := fun k v hv => (World.cell?_of_block (a := ⟨b, k, none⟩) (hb.block b hB)).trans hv
  obtain ⟨h0, h1, h2, h3, h4, h5, h6, h7, h8, h9⟩ := h
  exact ⟨key _ _ h0, key _ _ h1, key _ _ h2, key _ _ h3, key _ _ h4, key _ _ h5, key _ _ h6, key _ _ h7, key _ _ h8, key _ _ h9⟩
theorem RowP.below {w w' : World} {v : Value} {l : List Flt} {B : Nat} (h : RowP w v l) (hb : Below B w w') (hl : l ≠ [] → ∀ k, v.ownBlock = some k → k < B) : RowP w' v l := by
  rcases h with h | ⟨b, off, cap, rfl, hbl, hc⟩
  · exact .inl h
  · refine .inr ⟨b, off, cap, rfl, Nat.lt_of_lt_of_le hbl hb.size, fun j f hj => ?_⟩
    have hne : l ≠ [] := fun e => by rw [e] at hj; simp at hj
    have hbb := hb.block b (hl hne b rfl)
    obtain ⟨h1, h2, h3⟩ := hc j f hj
    exact ⟨(World.cell?_of_block (a := ⟨b, _, none⟩) hbb).trans h1, (World.cell?_of_block (a := ⟨b, _, none⟩) hbb).trans h2, (World.cell?_of_block (a := ⟨b, _, none⟩) hbb).trans h3⟩
theorem OpvOk.below {B B' : Nat} {o : Opv} {w w' : World} (h : OpvOk B o w) (hb : Below B w w') (hB : B ≤ B') : OpvOk B' o w' :=
  ⟨h.row.below hb h.low, fun hne k hk => Nat.lt_of_lt_of_le (h.low hne k hk) hB, h.few, h.small, h.prow.below hb h.plow, fun hne k hk => Nat.lt_of_lt_of_le (h.plow hne k hk) hB, h.pfew⟩
theorem OpvOk.slices {B : Nat} {o : Opv} {w : World} (h : OpvOk B o w) : (∃ ao cl cp, o.pv = .slice ao cl cp) ∧ ∃ ao cl cp, o.cv = .slice ao cl cp := by
  refine ⟨?_, ?_⟩
  · obtain ⟨ao, cp, h⟩ := h.prow.form; exact ⟨_, _, _, h⟩
  · rcases h.row with ⟨_, ao, c, h⟩ | ⟨b, off, cap, h, _⟩
    · exact ⟨_, _, _, h⟩
    · exact ⟨_, _, _, h⟩
end Go.Proofs.YtjbphheojfclcaaGreat
