import Derived.Test.YtofmiaaglbcebaaGreatDoorR3z
import Derived.Test.YtofmiaaglbcebaaGreatDoorR6z
import Derived.Test.YtofmiaaglbcebaaGreatDoorM5
import Derived.Test.YtofmiaaglbcebaaGreatDoorKQ
import Derived.Test.YtofmiaaglbcebaaGreatDoorKFz

-- The document's Load, written, Told.
namespace Go.Proofs.YtofmiaaglbcebaaGreatDoor
open Go.RowKit
set_option linter.unusedVariables false
set_option maxRecDepth 100000
/-- The document's volume, behind earlier calls. -/
structure Rb (G0 : Nat → Prop) (r : Nat) (v : Vs) (w0 : World) (G : Nat → Prop) (w : World) : Prop where
  vol : RV G r v w
  sub : ∀ k, G k → G0 k ∨ w0.heap.size ≤ k
  sup : ∀ k, G0 k → G k
  kept : Kp G0 w0 w
section
variable {G0 G : Nat → Prop} {r : Nat} {v v' : Vs} {w0 w w' : World}
theorem Rb.refl (h : RV G0 r v w0) : Rb G0 r v w0 G0 w0 := ⟨h, fun k hk => .inl hk, fun k hk => hk, ⟨rfl, rfl, rfl, Nat.le_refl _, fun _ _ _ => rfl⟩⟩
theorem Rb.below (h : Rb G0 r v w0 G w) (hb : Below w.heap.size w w') : Rb G0 r v w0 G w' := ⟨h.vol.below hb, h.sub, h.sup, h.kept.kept hb⟩
theorem Rb.turn (h : Rb G0 r v w0 G w) {G' : Nat → Prop} (hv : RV G' r v' w') (hk : Kp G w w') (h1 : ∀ k, G' k → G k ∨ w.heap.size ≤ k) (h2 : ∀ k, G k → G' k) : Rb G0 r v' w0 G' w' :=
  ⟨hv, fun k hk' => by
    have := h.kept.size
    rcases h1 k hk' with h' | h'
    · exact h.sub k h'
    · exact .inr (by omega), fun k hk' => h2 k (h.sup k hk'), h.kept.comp hk h.sub⟩
theorem Rb.did (h : Rb G0 r v w0 G w) (d : RDid G r v' w w') : Rb G0 r v' w0 (ext G w w') w' :=
  h.turn d.1 d.2 (fun k hk => by rcases hk with hk | hk; exact .inl hk; exact .inr hk.1) (fun k hk => .inl hk)
end
set_option maxHeartbeats 4000000 in
theorem rload_c (G : Nat → Prop) (r : Nat) (v : Vs) (nm : ByteArray) (w : World) (h : RV G r v w) (hw : Wf v.st) (hn : v.cnt ≤ 4194304) :
    Calls Tryz.prog 20 #[.pointer (some ⟨r, 0, none⟩), .string nm] w fun e w' => e = .returned (.tuple #[.string (if (v.read nm).1.2 = 0 then (v.read nm).1.1 else ⟨#[]⟩), .bool (decide ((v.read nm).1.2 = 0)), .int .i64 (((if (v.read nm).1.2 = 30 then 0 else (v.read nm).1.2 : Nat) : Int))]) ∧ RDid G r (v.read nm).2 w w' := by
  have HRD := hidK (rRead_c G r v nm w h hw hn)
  obtain ⟨⟨⟨d, E⟩, v'⟩, hr⟩ : ∃ r, r = v.read nm := ⟨_, rfl⟩
  rw [← hr] at HRD ⊢
  clear hr h hw hn
  simp only at HRD ⊢
  by_cases h0 : E = 0
  · subst h0
    go_enter Tryz.func20, Tryz.ntmps20
    go_wp2_with (go_at_call 26; refine HRD.out.mono ?_; rintro e w1 ⟨rfl, h1⟩)
    go_returns
    exact ⟨rfl, h1⟩
  · rw [decide_eq_false h0, if_neg h0]
    by_cases h3 : E = 30
    · subst h3
      go_enter Tryz.func20, Tryz.ntmps20
      go_wp2_with (go_at_call 26; refine HRD.out.mono ?_; rintro e w1 ⟨rfl, h1⟩)
      go_returns
      exact ⟨rfl, h1⟩
    · rw [if_neg h3]
      have b3 : ((E : Int) == 30) = false := by simp; omega
      have b3' : ¬ ((E : Int) = 30) := by omega
      have b0 : ((E : Int) == 0) = false := by simp; omega
      have b0' : ¬ ((E : Int) = 0) := by omega
      clear h0 h3
      go_enter Tryz.func20, Tryz.ntmps20
      go_wp2_with (go_at_call 26; refine HRD.out.mono ?_; rintro e w1 ⟨rfl, h1⟩)
      go_returns
      exact ⟨rfl, h1⟩
end Go.Proofs.YtofmiaaglbcebaaGreatDoor
