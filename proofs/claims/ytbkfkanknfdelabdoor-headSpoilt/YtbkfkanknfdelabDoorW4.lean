
-- head.Format: the whole contract.
import Derived.Test.YtbkfkanknfdelabDoorW3
import Derived.Test.YtbkfkanknfdelabDoorW2
namespace Go.Proofs.YtbkfkanknfdelabDoor
open Go.ChangeShapes Go.WideShapes Go.ChangeAt Go.RowKit
set_option linter.unusedVariables false
set_option maxRecDepth 100000

theorem suffix_last (l : List UInt8) : Lib.hasSuffix l [32] = decide (l.getLast? = some 32) := by
  unfold Lib.hasSuffix
  by_cases h : l.getLast? = some 32
  · rw [decide_eq_true h]
    obtain ⟨r, rfl⟩ : ∃ r, l = r ++ [32] := by
      obtain ⟨hne, e⟩ := List.getLast?_eq_some_iff.1 h
      exact ⟨_, e⟩
    rw [List.isSuffixOf_iff_suffix]; exact List.suffix_append _ _
  · rw [decide_eq_false h]
    cases e : List.isSuffixOf [32] l
    · rfl
    · exfalso
      rw [List.isSuffixOf_iff_suffix] at e
      obtain ⟨r, hr⟩ := e
      apply h
      rw [← hr, List.getLast?_append]; rfl
theorem fill_pad (B : Nat) (v : Int) (w : Nat) (h : fitN B v w) : fill (strL (pad B v w)) w = pad B v w := by
  unfold fill
  rw [strL_data, strL_size, pad_lenI B v w h, Nat.sub_self, List.replicate_zero, List.append_nil]
theorem jn_form (h : Hd) (hn : named h.name.data.toList) (hf : fitsH h) :
    jnP h.name (strL (pad 10 h.date 12)) (strL (pad 10 h.uid 6)) (strL (pad 10 h.gid 6)) (strL (pad 8 h.mode 8)) (strL (pad 10 h.size 10)) ⟨#[96, 10]⟩ 7 = formL h := by
  obtain ⟨f1, f2, f3, f4, f5⟩ := hf
  have e0 : fill h.name 16 = nameF h.name.data.toList := by
    have hl : h.name.data.toList.length = h.name.size := by simp
    unfold fill nameF; rw [hl]
  have e6 : fill ⟨#[96, 10]⟩ 2 = [96, 10] := rfl
  unfold jnP formL
  rw [e0, e6, show fill (strL (pad 10 h.date 12)) 12 = _ from fill_pad 10 h.date 12 f1, show fill (strL (pad 10 h.uid 6)) 6 = _ from fill_pad 10 h.uid 6 f2, show fill (strL (pad 10 h.gid 6)) 6 = _ from fill_pad 10 h.gid 6 f3, show fill (strL (pad 8 h.mode 8)) 8 = _ from fill_pad 8 h.mode 8 f4, show fill (strL (pad 10 h.size 10)) 10 = _ from fill_pad 10 h.size 10 f5]
  simp only [List.nil_append, List.append_assoc]
  rfl
theorem format_c (h : Hd) (w : World) (hC : Cols w) (hT : Tabs w) (hk : HdOk h) :
    Calls Tryd.prog 6 #[.agg (hdC h)] w fun e w' => e = .returned (.tuple #[.string (formatH h).1, .int .i64 (formatH h).2]) ∧ Below w.heap.size w w' := by
  have hI := hk.inn
  have hm := hk.2.2.2.2.2
  have hl : h.name.data.toList.length = h.name.size := by simp
  have HS : ∀ w, Calls Tryd.prog 11 #[.string h.name, .string ⟨#[32]⟩] w fun e w' => e = .returned (.bool (decide (h.name.data.toList.getLast? = some 32))) ∧ w' = w := fun w => by
    have h1 := Tryd.strings_HasSuffix h.name ⟨#[32]⟩ w (by unfold maxLen at hm; omega)
    rw [show (⟨#[32]⟩ : ByteArray).data.toList = [32] from rfl, suffix_last] at h1
    exact h1
  unfold formatH
  by_cases hn : named h.name.data.toList
  · rw [if_pos hn]
    have hn1 : h.name.size ≤ 16 := by have := hn.1; omega
    have HS0 : Hid (∀ w, Calls Tryd.prog 11 #[.string h.name, .string ⟨#[32]⟩] w fun e w' => e = .returned (.bool false) ∧ w' = w) := fun w => by
      have := HS w; rw [decide_eq_false hn.2] at this; exact this
    have HW := fun w hC hT => writeNumbers_c 0 h.date h.uid h.gid h.mode h.size 0 (putText 10 h.date (12 : Nat)) (putText 10 h.uid (6 : Nat)) (putText 10 h.gid (6 : Nat)) (putText 8 h.mode (8 : Nat)) (putText 10 h.size (10 : Nat)) (putErr 10 h.date (12 : Nat)) (putErr 10 h.uid (6 : Nat)) (putErr 10 h.gid (6 : Nat)) (putErr 8 h.mode (8 : Nat)) (putErr 10 h.size (10 : Nat)) w hC hT
      (fun w hT => put_10 h.date 12 w hT hI.1) (fun w hT => put_10 h.uid 6 w hT hI.2.1) (fun w hT => put_10 h.gid 6 w hT hI.2.2.1) (fun w hT => put_8 h.mode 8 w hT hI.2.2.2.1) (fun w hT => put_10 h.size 10 w hT hI.2.2.2.2)
    by_cases hf : fitsH h
    · rw [if_pos hf]
      have hj := jn_form h hn hf
      obtain ⟨f1, f2, f3, f4, f5⟩ := hf
      have t1 : putText 10 h.date (12 : Nat) = strL (pad 10 h.date 12) := by rw [putText_fit 10 h.date 12 (by omega) (by omega), if_pos f1]; rfl
      have t2 : putText 10 h.uid (6 : Nat) = strL (pad 10 h.uid 6) := by rw [putText_fit 10 h.uid 6 (by omega) (by omega), if_pos f2]; rfl
      have t3 : putText 10 h.gid (6 : Nat) = strL (pad 10 h.gid 6) := by rw [putText_fit 10 h.gid 6 (by omega) (by omega), if_pos f3]; rfl
      have t4 : putText 8 h.mode (8 : Nat) = strL (pad 8 h.mode 8) := by rw [putText_fit 8 h.mode 8 (by omega) (by omega), if_pos f4]; rfl
      have t5 : putText 10 h.size (10 : Nat) = strL (pad 10 h.size 10) := by rw [putText_fit 10 h.size 10 (by omega) (by omega), if_pos f5]; rfl
      have g1 : (strL (pad 10 h.date 12)).size ≤ 12 := by rw [strL_size]; exact Nat.le_of_eq (pad_lenI 10 h.date 12 f1)
      have g2 : (strL (pad 10 h.uid 6)).size ≤ 6 := by rw [strL_size]; exact Nat.le_of_eq (pad_lenI 10 h.uid 6 f2)
      have g3 : (strL (pad 10 h.gid 6)).size ≤ 6 := by rw [strL_size]; exact Nat.le_of_eq (pad_lenI 10 h.gid 6 f3)
      have g4 : (strL (pad 8 h.mode 8)).size ≤ 8 := by rw [strL_size]; exact Nat.le_of_eq (pad_lenI 8 h.mode 8 f4)
      have g5 : (strL (pad 10 h.size 10)).size ≤ 10 := by rw [strL_size]; exact Nat.le_of_eq (pad_lenI 10 h.size 10 f5)
      rw [t1, t2, t3, t4, t5] at HW
      refine format_ok h.date h.uid h.gid h.mode h.size h.name w hC hm (strL (pad 10 h.date 12)) (strL (pad 10 h.uid 6)) (strL (pad 10 h.gid 6)) (strL (pad 8 h.mode 8)) (strL (pad 10 h.size 10)) (strL (formL h)) hn1 HS0 (fun w hC hT => (HW w hC hT).mono fun e w' hx => ?_) hT (fun w hC => ?_)
      · rcases hx with ⟨_, _, _, _, _, he, hb⟩ | ⟨hno, _⟩
        · exact ⟨he, hb⟩
        · refine absurd ⟨?_, ?_, ?_, ?_, ?_⟩ hno
          · rw [putErr_fit 10 h.date 12 (by omega) (by omega), if_pos f1]
          · rw [putErr_fit 10 h.uid 6 (by omega) (by omega), if_pos f2]
          · rw [putErr_fit 10 h.gid 6 (by omega) (by omega), if_pos f3]
          · rw [putErr_fit 8 h.mode 8 (by omega) (by omega), if_pos f4]
          · rw [putErr_fit 10 h.size 10 (by omega) (by omega), if_pos f5]
      · have hx := join_c h.name (strL (pad 10 h.date 12)) (strL (pad 10 h.uid 6)) (strL (pad 10 h.gid 6)) (strL (pad 8 h.mode 8)) (strL (pad 10 h.size 10)) ⟨#[96, 10]⟩ w hC hn1 g1 g2 g3 g4 g5 (Nat.le_refl _)
        rw [hj] at hx; exact hx
    · rw [if_neg hf]
      refine format_bad h.date h.uid h.gid h.mode h.size h.name w hC hm hn1 HS0 (fun w hC hT => (HW w hC hT).mono fun e w' hx => ?_) hT
      have p1 := putErr_fit 10 h.date 12 (by omega) (by omega)
      have p2 := putErr_fit 10 h.uid 6 (by omega) (by omega)
      have p3 := putErr_fit 10 h.gid 6 (by omega) (by omega)
      have p4 := putErr_fit 8 h.mode 8 (by omega) (by omega)
      have p5 := putErr_fit 10 h.size 10 (by omega) (by omega)
      rcases hx with ⟨q1, q2, q3, q4, q5, _⟩ | ⟨_, ⟨x, hx0, hx, he⟩, hb⟩
      · refine absurd ⟨?_, ?_, ?_, ?_, ?_⟩ hf
        · rw [p1] at q1; by_cases c : fitN 10 h.date 12
          · exact c
          · rw [if_neg c] at q1; omega
        · rw [p2] at q2; by_cases c : fitN 10 h.uid 6
          · exact c
          · rw [if_neg c] at q2; omega
        · rw [p3] at q3; by_cases c : fitN 10 h.gid 6
          · exact c
          · rw [if_neg c] at q3; omega
        · rw [p4] at q4; by_cases c : fitN 8 h.mode 8
          · exact c
          · rw [if_neg c] at q4; omega
        · rw [p5] at q5; by_cases c : fitN 10 h.size 10
          · exact c
          · rw [if_neg c] at q5; omega
      · have hx11 : x = 11 := by
          have key : ∀ (c : Prop) [Decidable c], x = (if c then 0 else 11) → x = 11 := fun c _ e => by
            by_cases hc : c
            · rw [if_pos hc] at e; exact absurd e hx0
            · rw [if_neg hc] at e; exact e
          rcases hx with h | h | h | h | h
          · rw [p1] at h; exact key _ h
          · rw [p2] at h; exact key _ h
          · rw [p3] at h; exact key _ h
          · rw [p4] at h; exact key _ h
          · rw [p5] at h; exact key _ h
        rw [hx11] at he
        exact ⟨he, hb⟩
  · rw [if_neg hn]
    by_cases hs : h.name.size ≤ 16
    · refine format_blank h.date h.uid h.gid h.mode h.size h.name w hC hm hs (fun w => ?_)
      have := HS w
      rw [decide_eq_true (show h.name.data.toList.getLast? = some 32 from Classical.byContradiction fun hc => hn ⟨by omega, hc⟩)] at this
      exact this
    · exact format_long h.date h.uid h.gid h.mode h.size h.name w hC hm (by omega)
end Go.Proofs.YtbkfkanknfdelabDoor
