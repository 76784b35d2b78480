
-- commit.fill: the new bytes, piece by piece.
import Derived.Test.YtbbblncoicjacaaGreatDoorKA
import Derived.Test.YtbbblncoicjacaaGreatDoorU10
namespace Go.Proofs.YtbbblncoicjacaaGreatDoor
open Go.RowKit
set_option linter.unusedVariables false
variable {PS : (Nat → Prop) → Nat → St → World → Prop}
set_option maxHeartbeats 4000000 in
theorem closeD (G : Nat → Prop) (q : Nat) (v : Vs) (b : Nat) (x : Hd) (u : FrameMode) (w : World) (h : PV PS G q v w) (hb : FileAt w b q x) :
    CallsD Tryz.prog 23 #[.pointer (some ⟨b, 0, none⟩)] u w fun e u' w' => u' = u ∧ (∃ ev, e = .returned ev ∧ ErrIs w' w.heap.size ⟨#[99, 108, 111, 115, 101]⟩ x.name (v.close x).1 ev ∧ FileAt w' b q (v.close x).2 ∧ Kp (fun k => k = b) w w') := by
  have HCl : Hid (Calls Tryz.prog 35 #[.pointer (some ⟨b, 0, none⟩)] w fun e w' => e = .returned (.bool (x.closed v)) ∧ ∃ n, w' = w.drewN n) := hClosed_c G q v b x w h hb
  have HFa : Hid (∀ (e : Nat) w, Calls Tryz.prog 33 #[.string ⟨#[99, 108, 111, 115, 101]⟩, .string x.name, .int .i64 e] w fun r w' => ∃ ev, r = .returned ev ∧ ErrIs w' w.heap.size ⟨#[99, 108, 111, 115, 101]⟩ x.name e ev ∧ Below w.heap.size w w') := fun e w => failed_c _ _ e w
  have HB : Hid (FileAt w b q x) := hb
  rcases hc : x.closed v with _ | _
  · have HE : Hid (v.close x = (0, { x with shut := true })) := by show _ = _; unfold Vs.close; rw [hc]; rfl
    rw [hc] at HCl
    have fz : ∀ n, (w.drewN n).frozen? ⟨b, 0, none⟩ = false ∧ ∃ u, (w.drewN n).cell? ⟨b, 0, none⟩ = some u := fun n => by
      have := HB.out
      unfold FileAt at this
      have h2 : (w.drewN n).heap[b]? = some (.cells (fileV q x) 90 (0, 0)) := by rw [(drewN_eq w n).1]; exact this
      exact ⟨Lib.frozen_of_heap h2 0, _, by rw [Lib.cell_of_heap h2]; rfl⟩
    have HFZ : Hid (∀ n, (w.drewN n).frozen? ⟨b, 0, none⟩ = false ∧ ∃ u, (w.drewN n).cell? ⟨b, 0, none⟩ = some u) := fz
    clear h hb hc fz
    go_enter_d Tryz.func23, Tryz.ntmps23
    go_wp2_with (go_at_call 35; refine HCl.out.mono ?_; rintro e w1 ⟨rfl, n1, rfl⟩; obtain ⟨fz, u, hu⟩ := HFZ.out n1)
    go_returns
    rw [HE.out]
    have hq := drewN_eq w n1
    refine ⟨_, rfl, .inl ⟨rfl, rfl⟩, ?_, ?_⟩
    · unfold FileAt
      have h2 : (w.drewN n1).heap[b]? = some (.cells (fileV q x) 90 (0, 0)) := by rw [hq.1]; exact HB.out
      rw [blk_set h2]; rfl
    · refine ⟨hq.2.1, hq.2.2.1, hq.2.2.2, by simp [World.setCell], fun k _ hk => ?_⟩
      rw [Below.heap_setCell _ _ _ _ (by show k ≠ b; exact hk), hq.1]
  · have HE : Hid (v.close x = (42, x)) := by show _ = _; unfold Vs.close; rw [hc]; rfl
    rw [hc] at HCl
    have HD : Hid (∀ n, (w.drewN n).cell? ⟨b, 1, none⟩ = some (.string x.name)) := fun n => by
      have h2 : (w.drewN n).heap[b]? = some (.cells (fileV q x) 90 (0, 0)) := by rw [(drewN_eq w n).1]; exact hb
      rw [Lib.cell_of_heap h2]; rfl
    clear h hb hc
    go_enter_d Tryz.func23, Tryz.ntmps23
    go_wp2_with (first
      | (go_at_call 35; refine HCl.out.mono ?_; rintro e w1 ⟨rfl, n1, rfl⟩; have d1 := HD.out n1)
      | (go_at_call 33; refine (HFa.out 42 _).mono ?_; rintro e w2 ⟨ev, rfl, he, hbb⟩))
    go_returns
    rw [HE.out]
    have hq := drewN_eq w n1
    have hb2 : Below w.heap.size w w2 := (below_drewN' w n1).trans (hbb.mono (by rw [hq.1]; exact Nat.le_refl _))
    refine ⟨ev, rfl, he.low (by rw [hq.1]; exact Nat.le_refl _), ?_, Kp.of_below hb2⟩
    exact (hb2.block b (Array.getElem?_eq_some_iff.1 HB.out).1).trans HB.out
/-- What calls have done, and the error that they told, beside the volume's memory; blocks of F may have turned. -/
def EDk (PS : (Nat → Prop) → Nat → St → World → Prop) (F G : Nat → Prop) (q : Nat) (v : Vs) (w w' : World) (op name : ByteArray) (e : Nat) (ev : Value) : Prop :=
  ∃ B, w.heap.size ≤ B ∧ B ≤ w'.heap.size ∧ ErrIs w' B op name e ev ∧ PV PS (fun k => G k ∨ (w.heap.size ≤ k ∧ k < B)) q v w' ∧ Kp F w w'
/-- The volume and a handle beside it, behind calls. -/
structure Fl (PS : (Nat → Prop) → Nat → St → World → Prop) (G0 : Nat → Prop) (q : Nat) (v : Vs) (b : Nat) (x : Hd) (w0 : World) (G : Nat → Prop) (w : World) : Prop where
  vol : PV PS G q v w
  sub : ∀ k, G k → G0 k ∨ w0.heap.size ≤ k
  sup : ∀ k, G0 k → G k
  out : ¬ G b
  file : FileAt w b q x
  kept : Kp G0 w0 w
theorem Kp.comp {F G : Nat → Prop} {a b c : World} (h : Kp F a b) (k : Kp G b c) (hs : ∀ i, G i → F i ∨ a.heap.size ≤ i) : Kp F a c :=
  ⟨k.os.trans h.os, k.tape.trans h.tape, k.output.trans h.output, Nat.le_trans h.size k.size, fun i hi hF => (k.block i (Nat.lt_of_lt_of_le hi h.size) fun hG => by rcases hs i hG with h' | h'; exact hF h'; omega).trans (h.block i hi hF)⟩
theorem FileAt.lt {w : World} {b q : Nat} {x : Hd} (h : FileAt w b q x) : b < w.heap.size := by
  unfold FileAt at h; exact (Array.getElem?_eq_some_iff.1 h).1
/-- A call more. -/
theorem Fl.next {G0 G : Nat → Prop} {q : Nat} {v v' : Vs} {b : Nat} {x : Hd} {w0 w w' : World} {op name : ByteArray} {e : Nat} {ev : Value} (h : Fl PS G0 q v b x w0 G w) (d : EDid PS G q v' w w' op name e ev) (hb0 : b < w0.heap.size) :
    EDid PS G0 q v' w0 w' op name e ev ∧ ∃ G', Fl PS G0 q v' b x w0 G' w' := by
  obtain ⟨B, h1, h2, h3, h4, h5⟩ := d
  have hs := h.kept.size
  have hlt := h.file.lt
  refine ⟨⟨B, by omega, h2, h3, h4.mono (fun k hk => ?_) (fun k hk => ?_), h.kept.comp h5 h.sub⟩, _, ⟨h4, fun k hk => ?_, fun k hk => .inl (h.sup k hk), fun hk => ?_, h.file.kept h5 h.out, h.kept.comp h5 h.sub⟩⟩
  · rcases hk with hk | hk
    · rcases h.sub k hk with h' | h'
      · exact .inl h'
      · exact .inr ⟨h', by have := h.vol.low k hk; omega⟩
    · exact .inr ⟨by omega, hk.2⟩
  · rcases hk with hk | hk
    · exact h4.low k (.inl (h.sup k hk))
    · omega
  · rcases hk with hk | hk
    · exact h.sub k hk
    · exact .inr (by omega)
  · rcases hk with hk | hk
    · exact h.out hk
    · omega
theorem EDid.shut (C : PC PS) {G : Nat → Prop} {q : Nat} {v : Vs} {b : Nat} {w w1 w2 : World} {op name : ByteArray} {e : Nat} {ev : Value} (h : EDid PS G q v w w1 op name e ev) (hb : b < w.heap.size) (hG : ¬ G b) (hk : Kp (fun k => k = b) w1 w2) : EDk PS (fun k => G k ∨ k = b) G q v w w2 op name e ev := by
  obtain ⟨B, h1, h2, h3, h4, h5⟩ := h
  refine ⟨B, h1, Nat.le_trans h2 hk.size, h3.kept hk (fun k hk => by omega), h4.same C hk.size (fun k hk' hl => hk.block k hl (fun e => ?_)), (h5.mono' fun k hk => .inl hk).trans (hk.mono' fun k hk => .inr hk)⟩
  subst e
  rcases hk' with h' | h'
  · exact hG h'
  · omega
def strSz : Value → Nat
  | .string s => s.size
  | _ => 0
def fillOp (a : Nat) : ByteArray := if a = 4 then ⟨#[119, 114, 105, 116, 101]⟩ else ⟨#[115, 121, 110, 99]⟩
theorem nP_lt' {data : ByteArray} {k : Nat} (h : k < nP data) : k * 512 < data.size := by unfold nP at h; omega
theorem rest_piece (data : ByteArray) (k m : Nat) (hm : m = min (data.extract (k * 512) data.size).size 512) : (data.extract (k * 512) data.size).extract 0 m = pieceOf data k := by
  have hs : (data.extract (k * 512) data.size).size = data.size - k * 512 := by rw [ByteArray.size_extract]; omega
  unfold pieceOf
  rw [ByteArray.extract_extract]
  rw [hs] at hm
  rw [Nat.add_zero]
  by_cases h : k * 512 ≤ data.size
  · rw [show min (k * 512 + m) data.size = min (k * 512 + 512) data.size by omega]
  · have e1 : data.extract (k * 512) (min (k * 512 + m) data.size) = ByteArray.empty := ByteArray.extract_eq_empty_iff.2 (by omega)
    have e2 : data.extract (k * 512) (min (k * 512 + 512) data.size) = ByteArray.empty := ByteArray.extract_eq_empty_iff.2 (by omega)
    rw [e1, e2]
theorem rest_rest (data : ByteArray) (k m : Nat) (hk : k < nP data) (hm : m = min (data.extract (k * 512) data.size).size 512) : (data.extract (k * 512) data.size).extract m (data.extract (k * 512) data.size).size = data.extract ((k + 1) * 512) data.size := by
  have hlt := nP_lt' hk
  have hs : (data.extract (k * 512) data.size).size = data.size - k * 512 := by rw [ByteArray.size_extract]; omega
  rw [ByteArray.extract_extract, hs]
  rw [hs] at hm
  by_cases h : (k + 1) * 512 ≤ data.size
  · rw [show k * 512 + m = (k + 1) * 512 by omega, show min (k * 512 + (data.size - k * 512)) data.size = data.size by omega]
  · have e1 : data.extract (k * 512 + m) (min (k * 512 + (data.size - k * 512)) data.size) = ByteArray.empty := ByteArray.extract_eq_empty_iff.2 (by omega)
    have e2 : data.extract ((k + 1) * 512) data.size = ByteArray.empty := ByteArray.extract_eq_empty_iff.2 (by omega)
    rw [e1, e2]
end Go.Proofs.YtbbblncoicjacaaGreatDoor
