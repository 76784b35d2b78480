
-- DiskRefusals' walk.
import Derived.Test.YtodjgbmfmpbkjaaG8
import Derived.Test.YtodjgbmfmpbkjaaG9
import Derived.Test.YtodjgbmfmpbkjaaG4
import Derived.Test.YtodjgbmfmpbkjaaN2
import Derived.Test.YtodjgbmfmpbkjaaN6
namespace Go.Proofs.Ytodjgbmfmpbkjaa
open Go.RowKit
set_option linter.unusedVariables false
variable {PS : (Nat → Prop) → Nat → St → World → Prop}
theorem step_refused (st : St) (o : Opx) (h : st.err o ≠ 0) : st.step o = st := by
  unfold St.err at h
  unfold St.step
  split at h
  · rename_i h1; rw [if_pos h1]
    unfold St.create at h ⊢
    split at h
    · rename_i h2; rw [if_pos h2]
    · rename_i h2; rw [if_neg h2]
      split at h
      · rename_i h3; rw [if_pos h3]
      · exact absurd rfl h
  · rename_i h1; rw [if_neg h1]
    split at h
    · rename_i h2; rw [if_pos h2]
      unfold St.append at h ⊢
      split at h
      · rfl
      · split at h
        · rename_i h4; rw [if_pos h4]
        · exact absurd rfl h
    · rename_i h2; rw [if_neg h2]
      split at h
      · rename_i h3; rw [if_pos h3]
        unfold St.sync at h ⊢
        split at h
        · exact absurd rfl h
        · rfl
      · rename_i h3; rw [if_neg h3]
        split at h
        · rename_i h4
          have h4' : o.kind ≠ 4 := by omega
          rw [if_neg h4', if_pos h4]
          unfold St.rename at h ⊢
          split at h
          · rename_i h5; rw [if_pos h5]
          · rename_i h5; rw [if_neg h5]
            split at h
            · rename_i h6; rw [if_pos h6]
            · split at h
              · exact absurd rfl h
              · exact absurd rfl h
        · rename_i h4
          split at h
          · rename_i h5
            have h4' : o.kind ≠ 4 := by omega
            rw [if_neg h4', if_neg h4, if_pos h5]
            unfold St.remove at h ⊢
            split at h
            · rename_i h6; rw [if_pos h6]
            · rename_i h6; rw [if_neg h6]
              split at h
              · rename_i h7; rw [if_pos h7]
              · exact absurd rfl h
          · exact absurd rfl h
/-- Two volumes of the program's, apart. -/
structure Ev (PS : (Nat → Prop) → Nat → St → World → Prop) (B : Nat) (F1 : Nat → Prop) (p1 : Nat) (s1 : St) (F2 : Nat → Prop) (p2 : Nat) (s2 : St) (w : World) : Prop where
  a : One PS B F1 p1 s1 w
  b : One PS B F2 p2 s2 w
  apart : ∀ k, F1 k → ¬ F2 k
theorem Ev.below (C : PC PS) {B : Nat} {F1 F2 : Nat → Prop} {p1 p2 : Nat} {s1 s2 : St} {w w' : World} (h : Ev PS B F1 p1 s1 F2 p2 s2 w) (hb : Below w.heap.size w w') : Ev PS B F1 p1 s1 F2 p2 s2 w' := ⟨h.a.below C hb, h.b.below C hb, h.apart⟩
theorem Ev.first (C : PC PS) {B : Nat} {F1 F2 F' : Nat → Prop} {p1 p2 : Nat} {s1 s2 s' : St} {w w' : World} (h : Ev PS B F1 p1 s1 F2 p2 s2 w) (hk : Kp F1 w w') (t : One PS B F' p1 s' w') (hs : ∀ k, F' k → ext F1 w w' k) : Ev PS B F' p1 s' F2 p2 s2 w' := by
  have hsz := hk.size
  refine ⟨t, ⟨C.same h.b.d fun k h1 h2 => hk.block k h2 fun h3 => h.apart k h3 h1, fun k h1 => by have := h.b.lo k h1; omega⟩, fun k h1 h2 => ?_⟩
  rcases hs k h1 with h1 | h1
  · exact h.apart k h1 h2
  · have := h.b.lo k h2; omega
theorem Ev.second (C : PC PS) {B : Nat} {F1 F2 F' : Nat → Prop} {p1 p2 : Nat} {s1 s2 s' : St} {w w' : World} (h : Ev PS B F1 p1 s1 F2 p2 s2 w) (hk : Kp F2 w w') (t : One PS B F' p2 s' w') (hs : ∀ k, F' k → ext F2 w w' k) : Ev PS B F1 p1 s1 F' p2 s' w' := by
  have hsz := hk.size
  refine ⟨⟨C.same h.a.d fun k h1 h2 => hk.block k h2 fun h3 => h.apart k h1 h3, fun k h1 => by have := h.a.lo k h1; omega⟩, t, fun k h1 h2 => ?_⟩
  rcases hs k h2 with h2 | h2
  · exact h.apart k h1 h2
  · have := h.a.lo k h1; omega
/-- Both volumes st, behind k calls; a list of the statement's beside them that reads as l. -/
def EvR (PS : (Nat → Prop) → Nat → St → World → Prop) (w0 : World) (p1 p2 : Nat) (s1 s2 : St) (v : Value) (l : List Fl) (w : World) : Prop :=
  ∃ F1 F2, Ev PS w0.heap.size F1 p1 s1 F2 p2 s2 w ∧ RowF w v l ∧ (∀ g, v.ownBlock = some g → ¬ F1 g ∧ ¬ F2 g ∧ g < w.heap.size) ∧ Below w0.heap.size w0 w
theorem RowF.eq {w w' : World} {v : Value} {l : List Fl} (h : RowF w v l) (hk : ∀ g, v.ownBlock = some g → w'.heap[g]? = w.heap[g]?) : RowF w' v l := by
  rcases h with h | ⟨b, cap, rfl, hc⟩
  · exact .inl h
  · exact .inr ⟨b, cap, rfl, fun k f hf j x hx => (World.cell?_of_block (a := ⟨b, _, none⟩) (hk b rfl)).trans (hc k f hf j x hx)⟩
theorem EvR.alike (C : PC PS) {w0 w W : World} {p1 p2 : Nat} {s1 s2 : St} {v : Value} {l : List Fl} (h : EvR PS w0 p1 p2 s1 s2 v l w) (hA : Alike3 w W) : EvR PS w0 p1 p2 s1 s2 v l W := by
  obtain ⟨F1, F2, h1, h2, h3, h4⟩ := h
  exact ⟨F1, F2, h1.below C hA.below, h2.eq fun g _ => by rw [hA.heap], fun g hg => by rw [hA.heap]; exact h3 g hg, h4.trans (hA.below.mono h4.size)⟩
theorem EvR.bare (C : PC PS) {w0 w : World} {p1 p2 : Nat} {s1 s2 : St} {v : Value} {l : List Fl} (h : EvR PS w0 p1 p2 s1 s2 v l w) : EvR PS w0 p1 p2 s1 s2 (.slice none 0 0) [] w := by
  obtain ⟨F1, F2, h1, h2, h3, h4⟩ := h
  exact ⟨F1, F2, h1, .inl ⟨rfl, _, _, rfl⟩, (fun g hg => by cases hg), h4⟩
/-- A question to the first volume. -/
theorem EvR.ask (C : PC PS) {w0 w : World} {p1 p2 : Nat} {s1 s2 : St} {v : Value} {l : List Fl} {f : FuncId} {args : Array Value} {r : Value} (h : EvR PS w0 p1 p2 s1 s2 v l w)
    (hc : ∀ F, PS F p1 s1 w → Calls Try.prog f args w fun e w' => e = .returned r ∧ PS F p1 s1 w' ∧ Kp F w w') :
    Calls Try.prog f args w fun e w' => e = .returned r ∧ EvR PS w0 p1 p2 s1 s2 v l w' := by
  obtain ⟨F1, F2, h1, h2, h3, h4⟩ := h
  refine (hc F1 h1.a.d).mono ?_
  rintro e w' ⟨rfl, hd⟩
  obtain ⟨o1, o2⟩ := h1.a.ask h4.size hd
  exact ⟨rfl, F1, F2, h1.first C hd.2 o1 (fun k hk => .inl hk), h2.eq fun g hg => hd.2.block g (h3 g hg).2.2 (h3 g hg).1, fun g hg => ⟨(h3 g hg).1, (h3 g hg).2.1, by have := (h3 g hg).2.2; have := hd.2.size; omega⟩, h4.trans o2⟩
/-- A call of the script, on the first volume. -/
theorem EvR.do1 (C : PC PS) {w0 w : World} {p1 p2 : Nat} {s1 s2 : St} {v : Value} {l : List Fl} (h : EvR PS w0 p1 p2 s1 s2 v l w) (hw : Wf s1) (o : Opx) (ho : OpOk w0.heap.size o w) :
    Calls Try.prog 19 #[.pointer (some ⟨p1, 0, none⟩), o.v] w fun e w' => e = .returned (.int .i64 (s1.err o)) ∧ EvR PS w0 p1 p2 (s1.step o) s2 v l w' ∧ Below w0.heap.size w w' := by
  obtain ⟨F1, F2, h1, h2, h3, h4⟩ := h
  refine (dk_c C w0.heap.size F1 p1 s1 o w h1.a hw h4.size ho).mono ?_
  rintro e w' ⟨rfl, F', t, hb, hkp, hsub⟩
  refine ⟨rfl, ⟨F', F2, h1.first C hkp t hsub, h2.eq fun g hg => hkp.block g (h3 g hg).2.2 (h3 g hg).1, fun g hg => ⟨fun h' => ?_, (h3 g hg).2.1, by have := (h3 g hg).2.2; have := hkp.size; omega⟩, h4.trans hb⟩, hb⟩
  rcases hsub g h' with h' | h'
  · exact (h3 g hg).1 h'
  · have := (h3 g hg).2.2; omega
theorem EvR.do2 (C : PC PS) {w0 w : World} {p1 p2 : Nat} {s1 s2 : St} {v : Value} {l : List Fl} (h : EvR PS w0 p1 p2 s1 s2 v l w) (hw : Wf s2) (o : Opx) (ho : OpOk w0.heap.size o w) :
    Calls Try.prog 19 #[.pointer (some ⟨p2, 0, none⟩), o.v] w fun e w' => e = .returned (.int .i64 (s2.err o)) ∧ EvR PS w0 p1 p2 s1 (s2.step o) v l w' ∧ Below w0.heap.size w w' := by
  obtain ⟨F1, F2, h1, h2, h3, h4⟩ := h
  refine (dk_c C w0.heap.size F2 p2 s2 o w h1.b hw h4.size ho).mono ?_
  rintro e w' ⟨rfl, F', t, hb, hkp, hsub⟩
  refine ⟨rfl, ⟨F1, F', h1.second C hkp t hsub, h2.eq fun g hg => hkp.block g (h3 g hg).2.2 (h3 g hg).2.1, fun g hg => ⟨(h3 g hg).1, fun h' => ?_, by have := (h3 g hg).2.2; have := hkp.size; omega⟩, h4.trans hb⟩, hb⟩
  rcases hsub g h' with h' | h'
  · exact (h3 g hg).2.1 h'
  · have := (h3 g hg).2.2; omega
/-- The files of the first volume, the list that was there kept. -/
theorem EvR.files1 (C : PC PS) {w0 w : World} {p1 p2 : Nat} {s1 s2 : St} {v : Value} {l : List Fl} (h : EvR PS w0 p1 p2 s1 s2 v l w) (hw : Wf s1) (hd : DW s1) :
    Calls Try.prog 29 #[.pointer (some ⟨p1, 0, none⟩)] w fun e w' => ∃ ao cp, e = .returned (.tuple #[.slice ao s1.files.length cp, .bool true]) ∧ EvR PS w0 p1 p2 s1 s2 v l w' ∧ EvR PS w0 p1 p2 s1 s2 (.slice ao s1.files.length cp) s1.files w' := by
  obtain ⟨F1, F2, h1, h2, h3, h4⟩ := h
  have hsz := h4.size
  refine (files_k C w0.heap.size F1 p1 s1 w h1.a hw hd hsz).mono ?_
  rintro e w' ⟨⟨r, rfl, hr⟩, t, hb, hkp⟩
  obtain ⟨ao, cp, rfl⟩ := own_shape hr
  have hev := h1.first C hkp t (fun k hk => .inl hk)
  refine ⟨ao, cp, rfl, ⟨F1, F2, hev, h2.eq fun g hg => hkp.block g (h3 g hg).2.2 (h3 g hg).1, fun g hg => ⟨(h3 g hg).1, (h3 g hg).2.1, by have := (h3 g hg).2.2; have := hkp.size; omega⟩, h4.trans hb⟩, F1, F2, hev, RowF.of_own hr, fun g hg => ⟨fun h' => ?_, fun h' => ?_, (hr.lt g hg).2⟩, h4.trans hb⟩
  · have := (hr.lt g hg).1; have := h1.a.lo g h'; omega
  · have := (hr.lt g hg).1; have := h1.b.lo g h'; omega
theorem EvR.files2 (C : PC PS) {w0 w : World} {p1 p2 : Nat} {s1 s2 : St} {v : Value} {l : List Fl} (h : EvR PS w0 p1 p2 s1 s2 v l w) (hw : Wf s2) (hd : DW s2) :
    Calls Try.prog 29 #[.pointer (some ⟨p2, 0, none⟩)] w fun e w' => ∃ ao cp, e = .returned (.tuple #[.slice ao s2.files.length cp, .bool true]) ∧ EvR PS w0 p1 p2 s1 s2 v l w' ∧ EvR PS w0 p1 p2 s1 s2 (.slice ao s2.files.length cp) s2.files w' := by
  obtain ⟨F1, F2, h1, h2, h3, h4⟩ := h
  have hsz := h4.size
  refine (files_k C w0.heap.size F2 p2 s2 w h1.b hw hd hsz).mono ?_
  rintro e w' ⟨⟨r, rfl, hr⟩, t, hb, hkp⟩
  obtain ⟨ao, cp, rfl⟩ := own_shape hr
  have hev := h1.second C hkp t (fun k hk => .inl hk)
  refine ⟨ao, cp, rfl, ⟨F1, F2, hev, h2.eq fun g hg => hkp.block g (h3 g hg).2.2 (h3 g hg).2.1, fun g hg => ⟨(h3 g hg).1, (h3 g hg).2.1, by have := (h3 g hg).2.2; have := hkp.size; omega⟩, h4.trans hb⟩, F1, F2, hev, RowF.of_own hr, fun g hg => ⟨fun h' => ?_, fun h' => ?_, (hr.lt g hg).2⟩, h4.trans hb⟩
  · have := (hr.lt g hg).1; have := h1.a.lo g h'; omega
  · have := (hr.lt g hg).1; have := h1.b.lo g h'; omega
theorem EvR.row {w0 w : World} {p1 p2 : Nat} {s1 s2 : St} {v : Value} {l : List Fl} (h : EvR PS w0 p1 p2 s1 s2 v l w) : RowF w v l := by obtain ⟨F1, F2, h1, h2, h3, h4⟩ := h; exact h2
theorem EvR.bel {w0 w : World} {p1 p2 : Nat} {s1 s2 : St} {v : Value} {l : List Fl} (h : EvR PS w0 p1 p2 s1 s2 v l w) : Below w0.heap.size w0 w := by obtain ⟨F1, F2, h1, h2, h3, h4⟩ := h; exact h4
end Go.Proofs.Ytodjgbmfmpbkjaa
