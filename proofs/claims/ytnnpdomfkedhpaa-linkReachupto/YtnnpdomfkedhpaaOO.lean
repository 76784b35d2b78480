
-- What came in, opened: objects.
import Derived.Test.YtnnpdomfkedhpaaOP
import Derived.Test.YtnnpdomfkedhpaaRK
namespace Go.Proofs.Ytnnpdomfkedhpaa
open Go.RowKit Go.ChangeShapes Go.Deep
set_option linter.unusedVariables false
set_option maxRecDepth 100000
section
variable {H : Type} {enc : TypeId × Value → H} {w : World} {spare : Nat → Bool} {held : Bool}
/-- one object, opened -/
structure ObO (w : World) (B : Nat) (x : Ov) (N : Ob) : Prop where
  d : RowT w x.f N.df
  n : RowT w x.g N.nd
  dl : N.df.length ≤ B
  nl : N.nd.length ≤ B
theorem open_object {n : Nat} {u0 u1 u2 : Value} {x : DataW H × List MemPlace} (h : DataW.trod enc Try.prog w 0 spare held n 38 [u0, u1, u2] = some x) : ∃ (v : Ov) (N : Ob), [u0, u1, u2] = ovL v ∧ ObO w (Rows.uptoBulk x.1) v N := by
  obtain ⟨xs, m, _, hx, _, hxl, hf⟩ := DataW.trod_struct Try.underlying38 h
  obtain ⟨y0, y1, y2, rfl⟩ := len3 hxl
  have g0 : DataW.trod enc Try.prog w 0 spare held m 3 [u0] = some y0 := by simpa [cellsI] using hf 0 _ rfl
  have g1 : DataW.trod enc Try.prog w 0 spare held m 23 [u1] = some y1 := by simpa [cellsI, cellsT] using hf 1 _ rfl
  have g2 : DataW.trod enc Try.prog w 0 spare held m 23 [u2] = some y2 := by simpa [cellsI, cellsT] using hf 2 _ rfl
  obtain ⟨s, e, _⟩ := DataW.trod_int Try.underlying3 g0
  cases e
  obtain ⟨l1, r1, n1⟩ := open_texts g1
  obtain ⟨l2, r2, n2⟩ := open_texts g2
  have hbx : Rows.uptoBulk y0.1 + Rows.uptoBulk y1.1 + Rows.uptoBulk y2.1 ≤ Rows.uptoBulk x.1 := by
    rw [hx]
    simp only [Rows.uptoBulk, List.map_cons, List.map_nil, Rows.uptoBulkAll]
    omega
  exact ⟨⟨s, u1, u2⟩, ⟨l1, l2⟩, rfl, r1, r2, by show l1.length ≤ _; omega, by show l2.length ≤ _; omega⟩
theorem open_objects {fuel : Nat} {v : Value} {x : DataW H × List MemPlace} (h : DataW.trod enc Try.prog w 0 spare held fuel 22 [v] = some x) : ∃ (vs : List Ov) (Ns : List Ob), ObsAt (fun b => w.heap.size ≤ b) w v vs Ns ∧ Ns.length ≤ Rows.uptoBulk x.1 ∧ ∀ N ∈ Ns, N.df.length ≤ Rows.uptoBulk x.1 ∧ N.nd.length ≤ Rows.uptoBulk x.1 := by
  have cellsO : Try.prog.cellsOf 38 = 3 := by kernel_rfl
  have hcl : ∀ (x : Ov × Nat), (ovL x.1).length = 3 := fun _ => rfl
  obtain ⟨l, h1, h2, h3, h4⟩ := open_list (fun (x : Ov × Nat) => ovL x.1) 3 (by decide) hcl 22 38 Try.underlying22 cellsO (fun x => x.2) (fun x => ∃ N : Ob, ObO w x.2 x.1 N) (⟨0, .slice none 0 0, .slice none 0 0⟩, 0) (fun n b off cs x h1 h2 => by
    obtain ⟨_, hlen, _⟩ := World.cells?_some h1
    obtain ⟨u0, u1, u2, rfl⟩ := len3 hlen
    obtain ⟨y, N, e, hN⟩ := open_object h2
    exact ⟨(y, Rows.uptoBulk x.1), cells_at h1 e, Nat.le_refl _, N, hN⟩) h
  obtain ⟨Ns, g1, g2⟩ := pick_list l (fun x N => ObO w x.2 x.1 N) h4
  have hF : ∀ b, (fun b => w.heap.size ≤ b) b → w.heap.size ≤ b := fun b hb => hb
  have hle : ∀ y, y ∈ l → y.2 ≤ Rows.uptoBulk x.1 := fun y hy => by
    have := sum_mem (l.map (·.2)) y.2 (List.mem_map.2 ⟨y, hy, rfl⟩)
    omega
  refine ⟨l.map (·.1), Ns, ⟨?_, by simp [g1], fun i v N hv hN => ?_⟩, by omega, fun N hN => ?_⟩
  · have e : (l.map (·.1)).flatMap ovL = l.flatMap (fun (x : Ov × Nat) => ovL x.1) := by rw [List.flatMap_map]
    have hr : RowG ovL w v (l.map (·.1)) := by
      obtain ⟨ao, cap, q1, q2, q3, q4, q5⟩ := h1
      exact ⟨ao, cap, by simpa using q1, by simpa using q2, q3, q4, fun hp => by rw [e]; exact q5 (by simpa using hp)⟩
    exact hr.rowN (by decide) ovL_len hF
  · rw [List.getElem?_map] at hv
    cases hx : l[i]? with
    | none => rw [hx] at hv; cases hv
    | some y =>
      rw [hx] at hv; injection hv with hv; subst hv
      have q := g2 i y N hx hN
      exact ⟨q.d.rowN (by decide) txL_len hF, q.n.rowN (by decide) txL_len hF⟩
  · obtain ⟨i, hi⟩ := List.getElem?_of_mem hN
    have hil : i < l.length := by have := (List.getElem?_eq_some_iff.1 hi).1; omega
    have q := g2 i _ N (List.getElem?_eq_getElem hil) hi
    have hm := hle l[i] (List.getElem_mem hil)
    exact ⟨Nat.le_trans q.dl hm, Nat.le_trans q.nl hm⟩
end
end Go.Proofs.Ytnnpdomfkedhpaa
