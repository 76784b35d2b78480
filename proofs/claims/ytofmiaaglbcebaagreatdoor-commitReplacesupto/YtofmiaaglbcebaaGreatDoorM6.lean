import Derived.Test.YtofmiaaglbcebaaGreatDoorU9z
import Derived.Test.YtofmiaaglbcebaaGreatDoorVB
import Derived.Test.YtofmiaaglbcebaaGreatDoorM5
import Derived.Defers
import Derived.Recover
import Derived.Test.YtofmiaaglbcebaaGreatDoorU10z

-- commit: its error, its look at a name; a handle let go by defer.
namespace Go.Proofs.YtofmiaaglbcebaaGreatDoor
open Go.RowKit
set_option linter.unusedVariables false
variable {PS : (Nat → Prop) → Nat → St → World → Prop}
def replB : ByteArray := ⟨#[114, 101, 112, 108, 97, 99, 101]⟩
set_option maxHeartbeats 4000000 in
theorem cfailed_c (name : ByteArray) (e : Nat) (he : e ≠ 0) (w : World) :
    Calls Tryz.prog 49 #[.string name, .int .i64 e] w fun r w' => ∃ ev, r = .returned ev ∧ ErrIs w' w.heap.size replB name e ev ∧ Below w.heap.size w w' := by
  have HE : Hid (e ≠ 0) := he
  clear he
  go_enter Tryz.func49, Tryz.ntmps49
  go_wp2
  go_ret
  exact ⟨_, rfl, .inr ⟨HE.out, w.heap.size, Nat.le_refl _, rfl, heap_alloc_new _ _⟩, (Below.refl _ w).alloc (Nat.le_refl _) _⟩
/-- Why no file of this name can be replaced. -/
def whyNo (name : ByteArray) : Nat := if name = tmpB then 161 else if okName name = false then 32 else 0
set_option maxHeartbeats 4000000 in
theorem crefusal_c (s : ByteArray) (w : World) :
    Calls Tryz.prog 48 #[.string s] w fun e w' => e = .returned (.int .i64 (whyNo s)) ∧ Below w.heap.size w w' := by
  by_cases ht : s = tmpB
  · have HE : Hid (whyNo s = 161) := by show whyNo s = 161; unfold whyNo; rw [if_pos ht]
    rw [HE.out]
    clear HE
    subst ht
    unfold tmpB
    go_enter Tryz.func48, Tryz.ntmps48
    go_wp2
    go_ret
    exact ⟨rfl, Below.refl _ _⟩
  · have hb : (s.toList == tmpB.toList) = false := by rw [beq_toList]; exact decide_eq_false ht
    have hb' : (s.toList == [97, 114, 46, 116, 109, 112, 126]) = false := by
      have : tmpB.toList = [97, 114, 46, 116, 109, 112, 126] := by rw [ByteArray.toList_eq]; rfl
      rw [← this]; exact hb
    by_cases h0 : s = ⟨#[]⟩
    · have HE : Hid (whyNo s = 32) := by
        show whyNo s = 32; unfold whyNo; rw [if_neg ht, h0, if_pos (by decide +kernel)]
      rw [HE.out]
      clear HE
      subst h0
      go_enter Tryz.func48, Tryz.ntmps48
      go_wp2
      go_ret
      exact ⟨rfl, Below.refl _ _⟩
    · have h1 := empty_no h0
      have hs1 : 1 ≤ s.size := by
        rcases Nat.eq_zero_or_pos s.size with h | h
        · exact absurd (by cases s with | mk d => have e : d = #[] := Array.eq_empty_of_size_eq_zero h; rw [e]) h0
        · exact h
      have hl : s.toList.isEmpty = false := by
        cases h : s.toList with
        | nil => exact absurd h h1
        | cons _ _ => rfl
      by_cases h64 : s.size ≤ 64
      · have b1 : decide (64 < (s.size : Int)) = false := decide_eq_false (by omega)
        have HA : Hid (∀ W, Calls Tryz.prog 70 #[.string s, .string ⟨#[47, 0]⟩] W fun e w' => e = .returned (.bool (!s.data.toList.all okByte)) ∧ Below W.heap.size W w') := fun W => contains_c s W h64
        have hE : okName s = s.data.toList.all okByte := by unfold okName; simp [hs1, h64]
        have HE : Hid (whyNo s = if s.data.toList.all okByte = false then 32 else 0) := by show whyNo s = _; unfold whyNo; rw [if_neg ht, hE]
        obtain ⟨q, hq⟩ : ∃ q, q = s.data.toList.all okByte := ⟨_, rfl⟩
        rw [← hq] at HA HE
        rw [HE.out]
        clear hq HE h0 hE ht
        cases q
        all_goals
          go_enter Tryz.func48, Tryz.ntmps48
          go_wp2_with (go_at_call 70; refine (HA.out _).mono ?_; rintro e w1 ⟨rfl, hb⟩)
          go_ret
          exact ⟨rfl, hb⟩
      · have b1 : decide (64 < (s.size : Int)) = true := decide_eq_true (by omega)
        have HE : Hid (whyNo s = 32) := by
          show whyNo s = 32; unfold whyNo; rw [if_neg ht, if_pos (by unfold okName; simp [h64])]
        rw [HE.out]
        clear HE h0 ht
        go_enter Tryz.func48, Tryz.ntmps48
        go_wp2
        go_ret
        exact ⟨rfl, Below.refl _ _⟩
end Go.Proofs.YtofmiaaglbcebaaGreatDoor

-- commit.fill: the new bytes, piece by piece.
namespace Go.Proofs.YtofmiaaglbcebaaGreatDoor
open Go.RowKit
set_option linter.unusedVariables false
variable {PS : (Nat → Prop) → Nat → St → World → Prop}
set_option maxHeartbeats 4000000 in
theorem closeD (G : Nat → Prop) (q : Nat) (v : Vs) (b : Nat) (x : Hd) (u : FrameMode) (w : World) (h : PV PS G q v w) (hb : FileAt w b q x) :
    CallsD Tryz.prog 89 #[.pointer (some ⟨b, 0, none⟩)] u w fun e u' w' => u' = u ∧ (∃ ev, e = .returned ev ∧ ErrIs w' w.heap.size ⟨#[99, 108, 111, 115, 101]⟩ x.name (v.close x).1 ev ∧ FileAt w' b q (v.close x).2 ∧ Kp (fun k => k = b) w w') := by
  have HCl : Hid (Calls Tryz.prog 63 #[.pointer (some ⟨b, 0, none⟩)] w fun e w' => e = .returned (.bool (x.closed v)) ∧ ∃ n, w' = w.drewN n) := hClosed_c G q v b x w h hb
  have HFa : Hid (∀ (e : Nat) w, Calls Tryz.prog 55 #[.string ⟨#[99, 108, 111, 115, 101]⟩, .string x.name, .int .i64 e] w fun r w' => ∃ ev, r = .returned ev ∧ ErrIs w' w.heap.size ⟨#[99, 108, 111, 115, 101]⟩ x.name e ev ∧ Below w.heap.size w w') := fun e w => failed_c _ _ e w
  have HB : Hid (FileAt w b q x) := hb
  rcases hc : x.closed v with _ | _
  · have HE : Hid (v.close x = (0, { x with shut := true })) := by show _ = _; unfold Vs.close; rw [hc]; rfl
    rw [hc] at HCl
    have fz : ∀ n, (w.drewN n).frozen? ⟨b, 0, none⟩ = false ∧ ∃ u, (w.drewN n).cell? ⟨b, 0, none⟩ = some u := fun n => by
      have := HB.out
      unfold FileAt at this
      have h2 : (w.drewN n).heap[b]? = some (.cells (fileV q x) 146 (0, 0)) := by rw [(drewN_eq w n).1]; exact this
      exact ⟨Lib.frozen_of_heap h2 0, _, by rw [Lib.cell_of_heap h2]; rfl⟩
    have HFZ : Hid (∀ n, (w.drewN n).frozen? ⟨b, 0, none⟩ = false ∧ ∃ u, (w.drewN n).cell? ⟨b, 0, none⟩ = some u) := fz
    clear h hb hc fz
    go_enter_d Tryz.func89, Tryz.ntmps89
    go_wp2_with (go_at_call 63; refine HCl.out.mono ?_; rintro e w1 ⟨rfl, n1, rfl⟩; obtain ⟨fz, u, hu⟩ := HFZ.out n1)
    go_returns
    rw [HE.out]
    have hq := drewN_eq w n1
    refine ⟨_, rfl, .inl ⟨rfl, rfl⟩, ?_, ?_⟩
    · unfold FileAt
      have h2 : (w.drewN n1).heap[b]? = some (.cells (fileV q x) 146 (0, 0)) := by rw [hq.1]; exact HB.out
      rw [blk_set h2]; rfl
    · refine ⟨hq.2.1, hq.2.2.1, hq.2.2.2, by simp [World.setCell], fun k _ hk => ?_⟩
      rw [Below.heap_setCell _ _ _ _ (by show k ≠ b; exact hk), hq.1]
  · have HE : Hid (v.close x = (42, x)) := by show _ = _; unfold Vs.close; rw [hc]; rfl
    rw [hc] at HCl
    have HD : Hid (∀ n, (w.drewN n).cell? ⟨b, 1, none⟩ = some (.string x.name)) := fun n => by
      have h2 : (w.drewN n).heap[b]? = some (.cells (fileV q x) 146 (0, 0)) := by rw [(drewN_eq w n).1]; exact hb
      rw [Lib.cell_of_heap h2]; rfl
    clear h hb hc
    go_enter_d Tryz.func89, Tryz.ntmps89
    go_wp2_with (first
      | (go_at_call 63; refine HCl.out.mono ?_; rintro e w1 ⟨rfl, n1, rfl⟩; have d1 := HD.out n1)
      | (go_at_call 55; refine (HFa.out 42 _).mono ?_; rintro e w2 ⟨ev, rfl, he, hbb⟩))
    go_returns
    rw [HE.out]
    have hq := drewN_eq w n1
    have hb2 : Below w.heap.size w w2 := (below_drewN' w n1).trans (hbb.mono (by rw [hq.1]; exact Nat.le_refl _))
    refine ⟨ev, rfl, he.low (by rw [hq.1]; exact Nat.le_refl _), ?_, Kp.of_below hb2⟩
    exact (hb2.block b (Array.getElem?_eq_some_iff.1 HB.out).1).trans HB.out
/-- What calls have done, and the error that they told, beside the volume's memory; blocks of F may have turned. -/
def EDk (PS : (Nat → Prop) → Nat → St → World → Prop) (F G : Nat → Prop) (q : Nat) (v : Vs) (w w' : World) (op name : ByteArray) (e : Nat) (ev : Value) : Prop :=
  ∃ B, w.heap.size ≤ B ∧ B ≤ w'.heap.size ∧ ErrIs w' B op name e ev ∧ PV PS (fun k => G k ∨ (w.heap.size ≤ k ∧ k < B)) q v w' ∧ Kp F w w'
/-- The volume and a handle beside it, behind calls. -/
structure Fl (PS : (Nat → Prop) → Nat → St → World → Prop) (G0 : Nat → Prop) (q : Nat) (v : Vs) (b : Nat) (x : Hd) (w0 : World) (G : Nat → Prop) (w : World) : Prop where
  vol : PV PS G q v w
  sub : ∀ k, G k → G0 k ∨ w0.heap.size ≤ k
  sup : ∀ k, G0 k → G k
  out : ¬ G b
  file : FileAt w b q x
  kept : Kp G0 w0 w
theorem Kp.comp {F G : Nat → Prop} {a b c : World} (h : Kp F a b) (k : Kp G b c) (hs : ∀ i, G i → F i ∨ a.heap.size ≤ i) : Kp F a c :=
  ⟨k.os.trans h.os, k.tape.trans h.tape, k.output.trans h.output, Nat.le_trans h.size k.size, fun i hi hF => (k.block i (Nat.lt_of_lt_of_le hi h.size) fun hG => by rcases hs i hG with h' | h'; exact hF h'; omega).trans (h.block i hi hF)⟩
theorem FileAt.lt {w : World} {b q : Nat} {x : Hd} (h : FileAt w b q x) : b < w.heap.size := by
  unfold FileAt at h; exact (Array.getElem?_eq_some_iff.1 h).1
/-- A call more. -/
theorem Fl.next {G0 G : Nat → Prop} {q : Nat} {v v' : Vs} {b : Nat} {x : Hd} {w0 w w' : World} {op name : ByteArray} {e : Nat} {ev : Value} (h : Fl PS G0 q v b x w0 G w) (d : EDid PS G q v' w w' op name e ev) (hb0 : b < w0.heap.size) :
    EDid PS G0 q v' w0 w' op name e ev ∧ ∃ G', Fl PS G0 q v' b x w0 G' w' := by
  obtain ⟨B, h1, h2, h3, h4, h5⟩ := d
  have hs := h.kept.size
  have hlt := h.file.lt
  refine ⟨⟨B, by omega, h2, h3, h4.mono (fun k hk => ?_) (fun k hk => ?_), h.kept.comp h5 h.sub⟩, _, ⟨h4, fun k hk => ?_, fun k hk => .inl (h.sup k hk), fun hk => ?_, h.file.kept h5 h.out, h.kept.comp h5 h.sub⟩⟩
  · rcases hk with hk | hk
    · rcases h.sub k hk with h' | h'
      · exact .inl h'
      · exact .inr ⟨h', by have := h.vol.low k hk; omega⟩
    · exact .inr ⟨by omega, hk.2⟩
  · rcases hk with hk | hk
    · exact h4.low k (.inl (h.sup k hk))
    · omega
  · rcases hk with hk | hk
    · exact h.sub k hk
    · exact .inr (by omega)
  · rcases hk with hk | hk
    · exact h.out hk
    · omega
theorem EDid.shut (C : PC PS) {G : Nat → Prop} {q : Nat} {v : Vs} {b : Nat} {w w1 w2 : World} {op name : ByteArray} {e : Nat} {ev : Value} (h : EDid PS G q v w w1 op name e ev) (hb : b < w.heap.size) (hG : ¬ G b) (hk : Kp (fun k => k = b) w1 w2) : EDk PS (fun k => G k ∨ k = b) G q v w w2 op name e ev := by
  obtain ⟨B, h1, h2, h3, h4, h5⟩ := h
  refine ⟨B, h1, Nat.le_trans h2 hk.size, h3.kept hk (fun k hk => by omega), h4.same C hk.size (fun k hk' hl => hk.block k hl (fun e => ?_)), (h5.mono' fun k hk => .inl hk).trans (hk.mono' fun k hk => .inr hk)⟩
  subst e
  rcases hk' with h' | h'
  · exact hG h'
  · omega
def strSz : Value → Nat
  | .string s => s.size
  | _ => 0
def fillOp (a : Nat) : ByteArray := if a = 4 then ⟨#[119, 114, 105, 116, 101]⟩ else ⟨#[115, 121, 110, 99]⟩
theorem nP_lt' {data : ByteArray} {k : Nat} (h : k < nP data) : k * 512 < data.size := by unfold nP at h; omega
theorem rest_piece (data : ByteArray) (k m : Nat) (hm : m = min (data.extract (k * 512) data.size).size 512) : (data.extract (k * 512) data.size).extract 0 m = pieceOf data k := by
  have hs : (data.extract (k * 512) data.size).size = data.size - k * 512 := by rw [ByteArray.size_extract]; omega
  unfold pieceOf
  rw [ByteArray.extract_extract]
  rw [hs] at hm
  rw [Nat.add_zero]
  by_cases h : k * 512 ≤ data.size
  · rw [show min (k * 512 + m) data.size = min (k * 512 + 512) data.size by omega]
  · have e1 : data.extract (k * 512) (min (k * 512 + m) data.size) = ByteArray.empty := ByteArray.extract_eq_empty_iff.2 (by omega)
    have e2 : data.extract (k * 512) (min (k * 512 + 512) data.size) = ByteArray.empty := ByteArray.extract_eq_empty_iff.2 (by omega)
    rw [e1, e2]
theorem rest_rest (data : ByteArray) (k m : Nat) (hk : k < nP data) (hm : m = min (data.extract (k * 512) data.size).size 512) : (data.extract (k * 512) data.size).extract m (data.extract (k * 512) data.size).size = data.extract ((k + 1) * 512) data.size := by
  have hlt := nP_lt' hk
  have hs : (data.extract (k * 512) data.size).size = data.size - k * 512 := by rw [ByteArray.size_extract]; omega
  rw [ByteArray.extract_extract, hs]
  rw [hs] at hm
  by_cases h : (k + 1) * 512 ≤ data.size
  · rw [show k * 512 + m = (k + 1) * 512 by omega, show min (k * 512 + (data.size - k * 512)) data.size = data.size by omega]
  · have e1 : data.extract (k * 512 + m) (min (k * 512 + (data.size - k * 512)) data.size) = ByteArray.empty := ByteArray.extract_eq_empty_iff.2 (by omega)
    have e2 : data.extract ((k + 1) * 512) data.size = ByteArray.empty := ByteArray.extract_eq_empty_iff.2 (by omega)
    rw [e1, e2]
end Go.Proofs.YtofmiaaglbcebaaGreatDoor
