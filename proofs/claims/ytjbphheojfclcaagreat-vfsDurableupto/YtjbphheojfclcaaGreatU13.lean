
-- A plan is taken.
import Derived.Test.YtjbphheojfclcaaGreatU2
import Derived.Deep.RegionHeld3
import Derived.Deep.DrawnRows
namespace Go.Proofs.YtjbphheojfclcaaGreat
open Go.RowKit
set_option linter.unusedVariables false
variable {PS : (Nat → Prop) → Nat → St → World → Prop}
attribute [local go_sem ↓] Go.wp_at_zero Go.wp_at_succ
/-- A plan that came in. -/
def RowP (w : World) (v : Value) (l : List Flt) : Prop :=
  (l = [] ∧ ∃ ao c, v = .slice ao 0 c) ∨ ∃ b off cap, v = .slice (some ⟨b, off, none⟩) l.length cap ∧ b < w.heap.size ∧ ∀ (j : Nat) (f : Flt), l[j]? = some f → w.cell? ⟨b, off + j * 3, none⟩ = some (.int .i64 f.at_) ∧ w.cell? ⟨b, off + j * 3 + 1, none⟩ = some (.int .i64 f.kind) ∧ w.cell? ⟨b, off + j * 3 + 2, none⟩ = some (.int .i64 f.n)
theorem RowP.form {w : World} {v : Value} {l : List Flt} (h : RowP w v l) : ∃ ao cap, v = .slice ao l.length cap := by
  rcases h with ⟨rfl, ao, c, rfl⟩ | ⟨b, off, cap, rfl, _⟩
  · exact ⟨_, _, rfl⟩
  · exact ⟨_, _, rfl⟩
theorem RowP.kept {F : Nat → Prop} {w w' : World} {v : Value} {l : List Flt} (h : RowP w v l) (hk : Kp F w w') (hF : l ≠ [] → ∀ k, v.ownBlock = some k → ¬ F k) : RowP w' v l := by
  rcases h with h | ⟨b, off, cap, rfl, hb, hc⟩
  · exact .inl h
  · refine .inr ⟨b, off, cap, rfl, Nat.lt_of_lt_of_le hb hk.size, fun j f hj => ?_⟩
    have hne : l ≠ [] := fun e => by rw [e] at hj; simp at hj
    have hbb := hk.block b hb (hF hne b rfl)
    obtain ⟨h1, h2, h3⟩ := hc j f hj
    exact ⟨(World.cell?_of_block (a := ⟨b, _, none⟩) hbb).trans h1, (World.cell?_of_block (a := ⟨b, _, none⟩) hbb).trans h2, (World.cell?_of_block (a := ⟨b, _, none⟩) hbb).trans h3⟩
theorem hit_snoc (p : List Flt) (f : Flt) (k : Int) : hit (p ++ [f]) k = match hit p k with | some g => some g | none => if f.at_ = k then some f else none := by
  unfold hit
  rw [List.find?_append]
  cases h : p.find? (fun f => decide (f.at_ = k)) with
  | some g => rfl
  | none =>
    by_cases hk : f.at_ = k <;> simp [hk]
theorem hit_at {p : List Flt} {k : Int} {f : Flt} (h : hit p k = some f) : f.at_ = k := by
  unfold hit at h
  have := List.find?_some h
  simpa using this
/-- The map of a plan, while it is made. -/
structure PlanM (l : Prs) (plan : List Flt) : Prop where
  inn : PlanIn l plan
  pos : ∀ p ∈ l, ∃ k : Int, 0 < k ∧ p.1 = .int .i64 k
theorem PlanM.nil : PlanM [] [] := ⟨fun k _ => ⟨fun _ p hp => by simp at hp, fun f hf => by simp [hit] at hf⟩, fun p hp => by simp at hp⟩
theorem PlanM.skip {l : Prs} {plan : List Flt} (h : PlanM l plan) (f : Flt) (hs : f.at_ ≤ 0 ∨ ∃ g, hit plan f.at_ = some g) : PlanM l (plan ++ [f]) := by
  refine ⟨fun k hk => ?_, h.pos⟩
  have he : hit (plan ++ [f]) k = hit plan k := by
    rw [hit_snoc]
    cases hp : hit plan k with
    | some g => rfl
    | none =>
      rw [if_neg]
      intro e
      rcases hs with hs | ⟨g, hg⟩
      · omega
      · rw [e, hp] at hg; cases hg
  rw [he]; exact h.inn k hk
theorem PlanM.add {l : Prs} {plan : List Flt} (h : PlanM l plan) (f : Flt) (hp : 0 < f.at_) (hn : hit plan f.at_ = none) : PlanM ((.int .i64 f.at_, .agg (fltV f)) :: l) (plan ++ [f]) := by
  refine ⟨fun k hk => ?_, fun p hp' => ?_⟩
  · rw [hit_snoc]
    constructor
    · intro h0 p hpm
      cases hp2 : hit plan k with
      | some g => rw [hp2] at h0; cases h0
      | none =>
        rw [hp2] at h0
        by_cases e : f.at_ = k
        · simp [e] at h0
        · rcases List.mem_cons.1 hpm with rfl | hpm
          · simp; exact e
          · exact (h.inn k hk).1 hp2 p hpm
    · intro g hg
      cases hp2 : hit plan k with
      | some g' => rw [hp2] at hg; cases hg; exact List.mem_cons_of_mem _ ((h.inn k hk).2 g hp2)
      | none =>
        rw [hp2] at hg
        by_cases e : f.at_ = k
        · rw [if_pos e] at hg; cases hg; rw [← e]; exact List.mem_cons_self
        · rw [if_neg e] at hg; cases hg
  · rcases List.mem_cons.1 hp' with rfl | hp'
    · exact ⟨f.at_, hp, rfl⟩
    · exact h.pos p hp'
theorem PlanM.look {w : World} {b : Nat} {l : Prs} {plan : List Flt} (h : PlanM l plan) (ha : MapAt (.int .i64) w b l) (k : Int) :
    (0 < k → ∀ g, hit plan k = some g → (Instr.lookup 91 (.map (some b)) (.int .i64 k) true).run Tryz.prog w = .ok (.tuple #[.agg (fltV g), .bool true]) w) ∧
    ((k ≤ 0 ∨ hit plan k = none) → (Instr.lookup 91 (.map (some b)) (.int .i64 k) true).run Tryz.prog w = .ok (.tuple #[.agg (fltV noFlt), .bool false]) w) := by
  refine ⟨fun hk g hg => ?_, fun hh => ?_⟩
  · have := ha.look true Tryz.underlying91 Tryz.underlying3 (keyI k) ((h.inn k hk).2 g hg)
    simpa using this
  · have hno : ∀ p ∈ l, p.1 ≠ .int .i64 k := fun p hp => by
      obtain ⟨j, hj, hpj⟩ := h.pos p hp
      by_cases e : j = k
      · subst e
        rcases hh with hh | hh
        · omega
        · exact (h.inn j hj).1 hh p hp
      · rw [hpj]; simp [e]
    have := ha.look_no true Tryz.underlying91 Tryz.underlying3 (keyI k) hno (fltZero w)
    simpa using this
/-- The volume while a plan is taken: all but the map's entries. -/
structure Arming (PS : (Nat → Prop) → Nat → St → World → Prop) (G : Nat → Prop) (q : Nat) (v : Vs) (w0 w : World) (p mb : Nat) (Fd : Nat → Prop) (l : Prs) : Prop where
  disk : PS Fd p v.st w
  sub : ∀ k, Fd k → G k
  nq : ¬ Fd q
  own : G q
  lowG : ∀ k, G k → k < w0.heap.size
  nm : w0.heap.size ≤ mb
  blk : w.heap[q]? = some (.cells (fsV p (some mb) { v with cnt := 0 }) 95 (0, 0))
  map : MapAt (.int .i64) w mb l
  kp : Kp G w0 w
theorem Arming.same (C : PC PS) {G Fd : Nat → Prop} {q p mb : Nat} {v : Vs} {w0 w w' : World} {l : Prs} (A : Arming PS G q v w0 w p mb Fd l) (hb : Below w.heap.size w w') : Arming PS G q v w0 w' p mb Fd l where
  disk := C.below A.disk hb
  sub := A.sub
  nq := A.nq
  own := A.own
  lowG := A.lowG
  nm := A.nm
  blk := (hb.block q (Array.getElem?_eq_some_iff.1 A.blk).1).trans A.blk
  map := A.map.keep (hb.block mb A.map.lt)
  kp := A.kp.kept hb
theorem Arming.turn (C : PC PS) {G Fd : Nat → Prop} {q p mb : Nat} {v : Vs} {w0 w w' : World} {l l' : Prs} (A : Arming PS G q v w0 w p mb Fd l) (hm : MapAt (.int .i64) w' mb l') (ht : Turned w w' mb) : Arming PS G q v w0 w' p mb Fd l' where
  disk := C.same A.disk fun k hk hl => ht.other (fun e => by have := A.lowG k (A.sub k hk); have := A.nm; omega)
  sub := A.sub
  nq := A.nq
  own := A.own
  lowG := A.lowG
  nm := A.nm
  blk := (ht.other (fun e => by have := A.lowG q A.own; have := A.nm; omega)).trans A.blk
  map := hm
  kp := ⟨ht.os.1.trans A.kp.os, ht.os.2.1.trans A.kp.tape, ht.os.2.2.trans A.kp.output, by rw [ht.size]; exact A.kp.size, fun k hk hG => (ht.other (by have := A.nm; omega)).trans (A.kp.block k hk hG)⟩
theorem Arming.done {G Fd : Nat → Prop} {q p mb : Nat} {v : Vs} {w0 w : World} {l : Prs} {plan : List Flt} (A : Arming PS G q v w0 w p mb Fd l) (hp : PlanIn l plan) : VDid PS G q (v.arm plan) w0 w := by
  have hl := A.map.lt
  have hs := A.kp.size
  refine ⟨⟨p, some mb, Fd, A.disk, fun k hk => .inl (A.sub k hk), A.nq, .inl A.own, fun b hb => ?_, A.blk, .inr ⟨mb, l, rfl, A.map, hp⟩, fun k hk => ?_⟩, A.kp⟩
  · cases hb
    exact ⟨.inr ⟨A.nm, hl⟩, fun hk => by have := A.lowG _ (A.sub _ hk); have := A.nm; omega⟩
  · rcases hk with hk | hk
    · have := A.lowG k hk; omega
    · exact hk.2
end Go.Proofs.YtjbphheojfclcaaGreat
