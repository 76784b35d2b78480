
-- Two volumes apart, and lists of files beside them, through the statements' calls.
import Derived.Test.YtbbblncoicjacaaGreatLW
import Derived.Test.YtbbblncoicjacaaGreatFW
namespace Go.Proofs.YtbbblncoicjacaaGreat
open Go.ChangeShapes Go.WideShapes Go.ChangeAt Go.RowKit
set_option linter.unusedVariables false
set_option maxRecDepth 100000
variable {PS : (Nat → Prop) → Nat → St → World → Prop}
def Lx (PS : (Nat → Prop) → Nat → St → World → Prop) (B q : Nat) (v : Vs) (p : Nat) (u : Vs) (rows : Rws) (w : World) : Prop :=
  ∃ G H, PV PS G q v w ∧ PV PS H p u w ∧ (∀ k, G k → ¬ H k) ∧ (∀ k, G k → B ≤ k) ∧ (∀ k, H k → B ≤ k) ∧ ∀ r ∈ rows, RowF w r.1 r.2 ∧ (r.2 ≠ [] → ∀ g, r.1.ownBlock = some g → ¬ G g ∧ ¬ H g)
section
variable {B q p : Nat} {v v' u : Vs} {rows : Rws} {w w' : World}
theorem Lx.swap (h : Lx PS B q v p u rows w) : Lx PS B p u q v rows w := by
  obtain ⟨G, H, h1, h2, h3, h4, h5, h6⟩ := h
  exact ⟨H, G, h2, h1, fun k hk hg => h3 k hg hk, h5, h4, fun r hr => ⟨(h6 r hr).1, fun hne g hg => ⟨((h6 r hr).2 hne g hg).2, ((h6 r hr).2 hne g hg).1⟩⟩⟩
theorem Lx.below (C : PC PS) (h : Lx PS B q v p u rows w) (hb : Below w.heap.size w w') : Lx PS B q v p u rows w' := by
  obtain ⟨G, H, h1, h2, h3, h4, h5, h6⟩ := h
  exact ⟨G, H, h1.below C hb, h2.below C hb, h3, h4, h5, fun r hr => ⟨(h6 r hr).1.on hb, (h6 r hr).2⟩⟩
theorem Lx.row (h : Lx PS B q v p u rows w) {r : Value × List Fil} (hr : r ∈ rows) : RowF w r.1 r.2 := by
  obtain ⟨G, H, h1, h2, h3, h4, h5, h6⟩ := h
  exact (h6 r hr).1
theorem Lx.sub (h : Lx PS B q v p u rows w) {rows' : Rws} (hs : ∀ r ∈ rows', r ∈ rows) : Lx PS B q v p u rows' w := by
  obtain ⟨G, H, h1, h2, h3, h4, h5, h6⟩ := h
  exact ⟨G, H, h1, h2, h3, h4, h5, fun r hr => h6 r (hs r hr)⟩
theorem Lx.turn (C : PC PS) {G G' H : Nat → Prop} (h2 : PV PS H p u w) (h3 : ∀ k, G k → ¬ H k) (h4 : ∀ k, G k → B ≤ k) (h5 : ∀ k, H k → B ≤ k) (h6 : ∀ r ∈ rows, RowF w r.1 r.2 ∧ (r.2 ≠ [] → ∀ g, r.1.ownBlock = some g → ¬ G g ∧ ¬ H g)) (hB : B ≤ w.heap.size) (d : Bh PS G q v' w G' w') :
    (PV PS H p u w' ∧ (∀ k, G' k → ¬ H k) ∧ (∀ k, G' k → B ≤ k) ∧ ∀ r ∈ rows, RowF w' r.1 r.2 ∧ (r.2 ≠ [] → ∀ g, r.1.ownBlock = some g → ¬ G' g ∧ ¬ H g)) ∧ Below B w w' := by
  have hlow := h2.low
  refine ⟨⟨h2.same C d.kept.size (fun k hk hl => d.kept.block k hl (fun hg => h3 k hg hk)), fun k hk hh => ?_, fun k hk => ?_, fun r hr => ?_⟩, d.kept.below h4 hB⟩
  · rcases d.sub k hk with h' | h'
    · exact h3 k h' hh
    · have := hlow k hh; omega
  · rcases d.sub k hk with h' | h'
    · exact h4 k h'
    · omega
  · obtain ⟨g1, g2⟩ := h6 r hr
    refine ⟨g1.kept' d.kept (fun hne k hk => (g2 hne k hk).1), fun hne g hg => ⟨fun hk => ?_, (g2 hne g hg).2⟩⟩
    rcases d.sub g hk with h' | h'
    · exact (g2 hne g hg).1 h'
    · have := g1.lt (fun x => by rw [filL_len]; decide) hne g hg
      omega
end
theorem lx_scene (C : PC PS) (B q : Nat) (v : Vs) (c : Nat) (fv : Value) (l : List Fil) (w : World) (h : Vol PS B q v w) (hB : B ≤ w.heap.size) (hc : c ≤ 1073741824) (hf : RowF w fv l) (hl : 3 * l.length ≤ 1048600) (hz : ∀ x ∈ l, x.2.2.size ≤ 140737488355328) : Calls Tryz.prog 7 #[.int .i64 c, fv] w fun e w' => ∃ p, e = .returned (.pointer (some ⟨p, 0, none⟩)) ∧ Lx PS B q v p (Vs.scene c l) [] w' ∧ Below w.heap.size w w' := by
  obtain ⟨G, g1, g2⟩ := h
  have hlow := g1.low
  refine (scene_c C c fv l w hc hf hl hz).mono ?_
  rintro e w' ⟨p, rfl, ⟨H, h1, h2⟩, h3⟩
  exact ⟨p, rfl, ⟨G, H, g1.below C h3, h1, fun k hk hh => by have := hlow k hk; have := h2 k hh; omega, g2, fun k hk => by have := h2 k hk; omega, fun r hr => by simp at hr⟩, h3⟩
theorem lx_view (C : PC PS) (B q : Nat) (v : Vs) (p : Nat) (u : Vs) (rows : Rws) (w : World) (h : Lx PS B q v p u rows w) (hB : B ≤ w.heap.size) (hw : Wf v.st) (hd : DW v.st) (hn : v.cnt ≤ 4194000) (hc : v.calm) :
    Calls Tryz.prog 9 #[.pointer (some ⟨q, 0, none⟩)] w fun e w' => ∃ rv n, e = .returned (.tuple #[rv, .bool true]) ∧ n ≤ 129 ∧ Lx PS B q (v.ticks n) p u ((rv, seen v.st.bodies v.st.now) :: rows) w' ∧ Below B w w' := by
  obtain ⟨G, H, h1, h2, h3, h4, h5, h6⟩ := h
  have hlow := h2.low
  refine (viewH_c C G q v w h1 hw hd hn hc).mono ?_
  rintro e w' ⟨rv, n, G', rfl, hn', hb, hr, ho⟩
  obtain ⟨⟨t1, t2, t3, t4⟩, t5⟩ := Lx.turn C h2 h3 h4 h5 h6 hB hb
  refine ⟨rv, n, rfl, hn', ⟨G', H, hb.vol, t1, t2, t3, h5, fun r hr' => ?_⟩, t5⟩
  rcases List.mem_cons.1 hr' with rfl | hr'
  · exact ⟨hr, fun _ g hg => ⟨(ho g hg).1, fun hh => by have := (ho g hg).2; have := hlow g hh; omega⟩⟩
  · exact t4 r hr'
theorem lx_did (C : PC PS) {B q p : Nat} {v v' u : Vs} {rows : Rws} {w w' : World} {G H : Nat → Prop} (h1 : PV PS G q v w) (h2 : PV PS H p u w) (h3 : ∀ k, G k → ¬ H k) (h4 : ∀ k, G k → B ≤ k) (h5 : ∀ k, H k → B ≤ k) (h6 : ∀ r ∈ rows, RowF w r.1 r.2 ∧ (r.2 ≠ [] → ∀ g, r.1.ownBlock = some g → ¬ G g ∧ ¬ H g)) (hB : B ≤ w.heap.size) (d : VDid PS G q v' w w') : Lx PS B q v' p u rows w' ∧ Below B w w' := by
  obtain ⟨⟨t1, t2, t3, t4⟩, t5⟩ := Lx.turn C h2 h3 h4 h5 h6 hB ((Bh.refl h1).did d)
  exact ⟨⟨_, H, d.1, t1, t2, t3, h5, t4⟩, t5⟩
theorem lx_arm (C : PC PS) (B q : Nat) (v : Vs) (p : Nat) (u : Vs) (rows : Rws) (plan : List Flt) (pv : Value) (w : World) (h : Lx PS B q v p u rows w) (hB : B ≤ w.heap.size) (hp : RowP w pv plan) (hpf : plan ≠ [] → ∀ k, pv.ownBlock = some k → k < B) (hl : plan.length ≤ 4194304) :
    Calls Tryz.prog 11 #[.pointer (some ⟨q, 0, none⟩), pv] w fun e w' => e = .returned (.tuple #[]) ∧ Lx PS B q (v.arm plan) p u rows w' ∧ Below B w w' := by
  obtain ⟨G, H, h1, h2, h3, h4, h5, h6⟩ := h
  refine (fArm_c C G q v plan pv w h1 hp (fun hne k hk hG => by have := hpf hne k hk; have := h4 k hG; omega) hl).mono ?_
  rintro e w' ⟨rfl, hd⟩
  exact ⟨rfl, lx_did C h1 h2 h3 h4 h5 h6 hB hd⟩
theorem lx_repl (C : PC PS) (B q : Nat) (v : Vs) (p : Nat) (u : Vs) (rows : Rws) (name data : ByteArray) (m0 m1 m2 m3 : Int) (w : World) (kk : Nat) (h : Lx PS B q v p u rows w) (hB : B ≤ w.heap.size) (hv : Vf v kk) (hk : kk + nP data + 8 < 2097151) (hd : data.size ≤ 140737488355328) :
    Calls Tryz.prog 12 #[.pointer (some ⟨q, 0, none⟩), .string name, .string data, .agg #[.int .i64 m0, .int .i64 m1, .int .i64 m2, .int .i64 m3]] w fun r w' => ∃ ev, r = .returned ev ∧ (∃ op nm, ErrIs w' B op nm (v.replace name data m0 m1 m2 m3).1.1 ev) ∧ Lx PS B q (v.replace name data m0 m1 m2 m3).2 p u rows w' ∧ Below B w w' := by
  obtain ⟨G, H, h1, h2, h3, h4, h5, h6⟩ := h
  refine (crepl_c C G q v name data m0 m1 m2 m3 w kk h1 hv hk hd).mono ?_
  rintro r w' ⟨ev, rfl, hdg⟩
  obtain ⟨G', g1, g2⟩ := (Bh.refl h1).edg hdg
  obtain ⟨⟨t1, t2, t3, t4⟩, t5⟩ := Lx.turn C h2 h3 h4 h5 h6 hB g1
  exact ⟨ev, rfl, ⟨_, _, g2.is.low hB⟩, ⟨G', H, g1.vol, t1, t2, t3, h5, t4⟩, t5⟩
theorem lx_restart (C : PC PS) (B q : Nat) (v : Vs) (p : Nat) (u : Vs) (rows : Rws) (n : Int) (cv : Value) (cuts : List Int) (w : World) (h : Lx PS B q v p u rows w) (hB : B ≤ w.heap.size) (hw : Wf v.st) (hr : v.round ≤ 4194304) (hc : RowI w cv cuts) (hcf : cuts ≠ [] → ∀ k, cv.ownBlock = some k → k < B) (hcl : cuts.length ≤ 4194304) :
    Calls Tryz.prog 15 #[.pointer (some ⟨q, 0, none⟩), .int .i64 n, cv] w fun e w' => e = .returned (.tuple #[]) ∧ Lx PS B q (v.restart n cuts) p u rows w' ∧ Below B w w' := by
  obtain ⟨G, H, h1, h2, h3, h4, h5, h6⟩ := h
  refine (fRestart_c C G q v n cv cuts w h1 hw hr hc (fun hne k hk hG => by have := hcf hne k hk; have := h4 k hG; omega) hcl).mono ?_
  rintro e w' ⟨rfl, hd⟩
  exact ⟨rfl, lx_did C h1 h2 h3 h4 h5 h6 hB hd⟩
theorem lx_calls (B q : Nat) (v : Vs) (p : Nat) (u : Vs) (rows : Rws) (w : World) (h : Lx PS B q v p u rows w) : Calls Tryz.prog 17 #[.pointer (some ⟨q, 0, none⟩)] w fun e w' => e = .returned (.int .i64 v.cnt) ∧ w' = w := by
  obtain ⟨G, H, h1, h2⟩ := h
  exact fCalls_c G q v w h1
theorem lx_down (B q : Nat) (v : Vs) (p : Nat) (u : Vs) (rows : Rws) (w : World) (h : Lx PS B q v p u rows w) : Calls Tryz.prog 14 #[.pointer (some ⟨q, 0, none⟩)] w fun e w' => e = .returned (.bool v.off) ∧ w' = w := by
  obtain ⟨G, H, h1, h2⟩ := h
  exact fDown_c G q v w h1
end Go.Proofs.YtbbblncoicjacaaGreat
