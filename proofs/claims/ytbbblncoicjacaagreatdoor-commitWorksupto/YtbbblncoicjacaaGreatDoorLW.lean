
-- The volume and lists of files beside it, through the statements' calls.
import Derived.Test.YtbbblncoicjacaaGreatDoorXT
import Derived.Test.YtbbblncoicjacaaGreatDoorFV
import Derived.Test.YtbbblncoicjacaaGreatDoorFH
import Derived.Test.YtbbblncoicjacaaGreatDoorFE
namespace Go.Proofs.YtbbblncoicjacaaGreatDoor
open Go.ChangeShapes Go.WideShapes Go.ChangeAt Go.RowKit
set_option linter.unusedVariables false
set_option maxRecDepth 100000
variable {PS : (Nat → Prop) → Nat → St → World → Prop}
abbrev Rws := List (Value × List Fil)
theorem RowG.kept' {α : Type} {c : α → List Value} {F : Nat → Prop} {w w' : World} {v : Value} {L : List α} (h : RowG c w v L) (hk : Kp F w w') (hF : L ≠ [] → ∀ k, v.ownBlock = some k → ¬ F k) : RowG c w' v L := by
  obtain ⟨ao, cap, e, h1, h2, h3, h4⟩ := h
  refine ⟨ao, cap, e, h1, h2, h3, fun hp => ?_⟩
  obtain ⟨b, off, e2, hc⟩ := h4 hp
  have hne : L ≠ [] := fun e => by rw [e] at hp; simp at hp
  refine ⟨b, off, e2, fun j u hu => ?_⟩
  have hcell := hc j u hu
  have hlt := World.block_lt_of_cell? _ _ hcell
  rw [World.cell?_of_block (a := ⟨b, off + j, none⟩) (hk.block b hlt (hF hne b (by rw [e, e2]; rfl)))]
  exact hcell
theorem RowG.lt {α : Type} {c : α → List Value} {w : World} {v : Value} {L : List α} (hc1 : ∀ x, 0 < (c x).length) (h : RowG c w v L) (hne : L ≠ []) : ∀ g, v.ownBlock = some g → g < w.heap.size := by
  obtain ⟨ao, cap, e, h1, h2, h3, h4⟩ := h
  intro g hg
  obtain ⟨b, off, e2, hc⟩ := h4 (List.length_pos_iff.2 hne)
  cases L with
  | nil => exact absurd rfl hne
  | cons x r =>
    have h0 : ((x :: r).flatMap c)[0]? = some ((c x)[0]'(hc1 x)) := by
      rw [List.flatMap_cons, List.getElem?_append_left (hc1 x)]; exact List.getElem?_eq_getElem _
    have := World.block_lt_of_cell? _ _ (hc 0 _ h0)
    rw [e, e2] at hg
    simp only [Value.ownBlock, Option.some.injEq] at hg
    rw [← hg]; exact this
/-- A volume with its memory behind B, and rows beside it. -/
def Lw (PS : (Nat → Prop) → Nat → St → World → Prop) (B q : Nat) (v : Vs) (rows : Rws) (w : World) : Prop :=
  ∃ G, PV PS G q v w ∧ (∀ k, G k → B ≤ k) ∧ ∀ r ∈ rows, RowF w r.1 r.2 ∧ (r.2 ≠ [] → ∀ g, r.1.ownBlock = some g → ¬ G g)
section
variable {B q : Nat} {v v' : Vs} {rows : Rws} {w w' : World}
theorem Lw.below (C : PC PS) (h : Lw PS B q v rows w) (hb : Below w.heap.size w w') : Lw PS B q v rows w' := by
  obtain ⟨G, h1, h2, h3⟩ := h
  exact ⟨G, h1.below C hb, h2, fun r hr => ⟨(h3 r hr).1.on hb, (h3 r hr).2⟩⟩
theorem Lw.row (h : Lw PS B q v rows w) {r : Value × List Fil} (hr : r ∈ rows) : RowF w r.1 r.2 := by
  obtain ⟨G, h1, h2, h3⟩ := h
  exact (h3 r hr).1
theorem Lw.sub (h : Lw PS B q v rows w) {rows' : Rws} (hs : ∀ r ∈ rows', r ∈ rows) : Lw PS B q v rows' w := by
  obtain ⟨G, h1, h2, h3⟩ := h
  exact ⟨G, h1, h2, fun r hr => h3 r (hs r hr)⟩
/-- A row that was made beside it. -/
theorem Lw.cons (h : Lw PS B q v rows w) {rv : Value} {L : List Fil} (hr : RowF w rv L) (ho : ∀ G, PV PS G q v w → L ≠ [] → ∀ g, rv.ownBlock = some g → ¬ G g) : Lw PS B q v ((rv, L) :: rows) w := by
  obtain ⟨G, h1, h2, h3⟩ := h
  refine ⟨G, h1, h2, fun r hr' => ?_⟩
  rcases List.mem_cons.1 hr' with rfl | hr'
  · exact ⟨hr, ho G h1⟩
  · exact h3 r hr'
theorem Lw.turn {G G' : Nat → Prop} (h2 : ∀ k, G k → B ≤ k) (hB : B ≤ w.heap.size) (h3 : ∀ r ∈ rows, RowF w r.1 r.2 ∧ (r.2 ≠ [] → ∀ g, r.1.ownBlock = some g → ¬ G g)) (d : Bh PS G q v' w G' w') : Lw PS B q v' rows w' ∧ Below B w w' := by
  refine ⟨⟨G', d.vol, fun k hk => ?_, fun r hr => ?_⟩, d.kept.below h2 hB⟩
  · rcases d.sub k hk with h' | h'
    · exact h2 k h'
    · omega
  · obtain ⟨g1, g2⟩ := h3 r hr
    refine ⟨g1.kept' d.kept g2, fun hne g hg hk => ?_⟩
    rcases d.sub g hk with h' | h'
    · exact g2 hne g hg h'
    · have := g1.lt (fun x => by rw [filL_len]; decide) hne g hg
      omega
end
theorem lw_scene (C : PC PS) (c : Nat) (fv : Value) (l : List Fil) (w : World) (hc : c ≤ 1073741824) (hf : RowF w fv l) (hl : 3 * l.length ≤ 1048600) (hz : ∀ x ∈ l, x.2.2.size ≤ 140737488355328) : Calls Tryz.prog 4 #[.int .i64 c, fv] w fun e w' => ∃ q, e = .returned (.pointer (some ⟨q, 0, none⟩)) ∧ Lw PS w.heap.size q (Vs.scene c l) [] w' ∧ Below w.heap.size w w' := by
  refine (scene_c C c fv l w hc hf hl hz).mono ?_
  rintro e w' ⟨q, rfl, ⟨G, h1, h2⟩, h3⟩
  exact ⟨q, rfl, ⟨G, h1, h2, fun r hr => by simp at hr⟩, h3⟩
theorem lw_view (C : PC PS) (B q : Nat) (v : Vs) (rows : Rws) (w : World) (h : Lw PS B q v rows w) (hB : B ≤ w.heap.size) (hw : Wf v.st) (hd : DW v.st) (hn : v.cnt ≤ 4194000) (hc : v.calm) :
    Calls Tryz.prog 7 #[.pointer (some ⟨q, 0, none⟩)] w fun e w' => ∃ rv n, e = .returned (.tuple #[rv, .bool true]) ∧ n ≤ 129 ∧ Lw PS B q (v.ticks n) ((rv, seen v.st.bodies v.st.now) :: rows) w' ∧ Below B w w' := by
  obtain ⟨G, h1, h2, h3⟩ := h
  refine (view_c C G q v w h1 hw hd hn hc).mono ?_
  rintro e w' ⟨rv, n, G', rfl, hn', hb, hr, ho⟩
  obtain ⟨⟨G2, g1, g2, g3⟩, g4⟩ := Lw.turn h2 hB h3 hb
  refine ⟨rv, n, rfl, hn', ⟨G', hb.vol, fun k hk => ?_, fun r hr' => ?_⟩, g4⟩
  · rcases hb.sub k hk with h' | h'
    · exact h2 k h'
    · omega
  · rcases List.mem_cons.1 hr' with rfl | hr'
    · exact ⟨hr, fun _ => ho⟩
    · obtain ⟨q1, q2⟩ := h3 r hr'
      refine ⟨q1.kept' hb.kept q2, fun hne g hg hk => ?_⟩
      rcases hb.sub g hk with h' | h'
      · exact q2 hne g hg h'
      · have := q1.lt (fun x => by rw [filL_len]; decide) hne g hg
        omega
theorem lw_did {B q : Nat} {v' : Vs} {rows : Rws} {w w' : World} {G : Nat → Prop} (h2 : ∀ k, G k → B ≤ k) (hB : B ≤ w.heap.size) (h3 : ∀ r ∈ rows, RowF w r.1 r.2 ∧ (r.2 ≠ [] → ∀ g, r.1.ownBlock = some g → ¬ G g)) {v : Vs} (h1 : PV PS G q v w) (d : VDid PS G q v' w w') : Lw PS B q v' rows w' ∧ Below B w w' :=
  Lw.turn h2 hB h3 ((Bh.refl h1).did d)
theorem lw_arm (C : PC PS) (B q : Nat) (v : Vs) (rows : Rws) (plan : List Flt) (pv : Value) (w : World) (h : Lw PS B q v rows w) (hB : B ≤ w.heap.size) (hp : RowP w pv plan) (hpf : plan ≠ [] → ∀ k, pv.ownBlock = some k → k < B) (hl : plan.length ≤ 4194304) :
    Calls Tryz.prog 9 #[.pointer (some ⟨q, 0, none⟩), pv] w fun e w' => e = .returned (.tuple #[]) ∧ Lw PS B q (v.arm plan) rows w' ∧ Below B w w' := by
  obtain ⟨G, h1, h2, h3⟩ := h
  refine (fArm_c C G q v plan pv w h1 hp (fun hne k hk hG => by have := hpf hne k hk; have := h2 k hG; omega) hl).mono ?_
  rintro e w' ⟨rfl, hd⟩
  exact ⟨rfl, lw_did h2 hB h3 h1 hd⟩
theorem lw_repl (C : PC PS) (B q : Nat) (v : Vs) (rows : Rws) (name data : ByteArray) (m0 m1 m2 m3 : Int) (w : World) (kk : Nat) (h : Lw PS B q v rows w) (hB : B ≤ w.heap.size) (hv : Vf v kk) (hk : kk + nP data + 8 < 2097151) (hd : data.size ≤ 140737488355328) :
    Calls Tryz.prog 10 #[.pointer (some ⟨q, 0, none⟩), .string name, .string data, .agg #[.int .i64 m0, .int .i64 m1, .int .i64 m2, .int .i64 m3]] w fun r w' => ∃ ev, r = .returned ev ∧ (∃ op nm, ErrIs w' B op nm (v.replace name data m0 m1 m2 m3).1.1 ev) ∧ Lw PS B q (v.replace name data m0 m1 m2 m3).2 rows w' ∧ Below B w w' := by
  obtain ⟨G, h1, h2, h3⟩ := h
  refine (crepl_c C G q v name data m0 m1 m2 m3 w kk h1 hv hk hd).mono ?_
  rintro r w' ⟨ev, rfl, hdg⟩
  obtain ⟨G', g1, g2⟩ := (Bh.refl h1).edg hdg
  exact ⟨ev, rfl, ⟨_, _, g2.is.low hB⟩, Lw.turn h2 hB h3 g1⟩
theorem lw_calls (B q : Nat) (v : Vs) (rows : Rws) (w : World) (h : Lw PS B q v rows w) : Calls Tryz.prog 11 #[.pointer (some ⟨q, 0, none⟩)] w fun e w' => e = .returned (.int .i64 v.cnt) ∧ w' = w := by
  obtain ⟨G, h1, h2, h3⟩ := h
  exact fCalls_c G q v w h1
theorem RowP.on {B : Nat} {w w' : World} {v : Value} {l : List Flt} (h : RowP w v l) (hb : Below B w w') (hF : l ≠ [] → ∀ k, v.ownBlock = some k → k < B) : RowP w' v l :=
  h.kept (F := fun k => B ≤ k) ⟨hb.os, hb.tape, hb.output, hb.size, fun k hk hn => hb.block k (by omega)⟩ fun hne k hk => by have := hF hne k hk; omega
theorem RowI.on {B : Nat} {w w' : World} {v : Value} {l : List Int} (h : RowI w v l) (hb : Below B w w') (hF : l ≠ [] → ∀ k, v.ownBlock = some k → k < B) : RowI w' v l :=
  h.kept (F := fun k => B ≤ k) ⟨hb.os, hb.tape, hb.output, hb.size, fun k hk hn => hb.block k (by omega)⟩ fun hne k hk => by have := hF hne k hk; omega
end Go.Proofs.YtbbblncoicjacaaGreatDoor
