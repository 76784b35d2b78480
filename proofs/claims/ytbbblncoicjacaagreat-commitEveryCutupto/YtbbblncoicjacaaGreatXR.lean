
-- CommitRefused, plainly; a plan that was made beside the volume.
import Derived.Test.YtbbblncoicjacaaGreatLW
namespace Go.Proofs.YtbbblncoicjacaaGreat
open Go.ChangeShapes Go.WideShapes Go.ChangeAt Go.RowKit
set_option linter.unusedVariables false
set_option maxRecDepth 100000
variable {PS : (Nat → Prop) → Nat → St → World → Prop}
def musts (U cap : Nat) (da : ByteArray) (faults : List Flt) : Prop := (cap < U + da.size ∧ da ≠ ⟨#[]⟩) ∨ ∃ f r, faults = f :: r ∧ f.at_ = 1 ∧ f.kind = 1
theorem refused_plain (s : St) (c : Nat) (L : List Fil) (hsc : Sc s [L]) (hcap : s.cap = c) (hb : s.bodies.length < 2097151) (faults : List Flt) (hno : noCut faults) (nm da : ByteArray) (m0 m1 m2 m3 : Int) (n : Int) (cuts : List Int) :
    ∃ E v2, (⟨s, faults, 0, false, 0⟩ : Vs).replace nm da m0 m1 m2 m3 = ((E, ((⟨s, faults, 0, false, 0⟩ : Vs).replace nm da m0 m1 m2 m3).1.2), v2) ∧ Wf v2.st ∧ DW v2.st ∧ v2.round = 0 ∧ v2.off = false ∧
      (musts (sizeF L) c da faults → E ≠ 0) ∧ (E ≠ 0 → E ≠ 160 → seen v2.st.bodies v2.st.now = L ∧ Sc (v2.st.crash n cuts) [L]) := by
  obtain ⟨s', a, e, c', h1, h2, h3, h4⟩ := rep_any ⟨s, faults, 0, false, 0⟩ s L hsc hb nm da m0 m1 m2 m3
  have h1' : (⟨s, faults, 0, false, 0⟩ : Vs).replace nm da m0 m1 m2 m3 = ((e, a), c'.on s') := h1
  have hrd : (c'.on s').round = 0 := by
    have := repl_round (⟨s, faults, 0, false, 0⟩ : Vs) nm da m0 m1 m2 m3
    rw [h1'] at this; exact this
  obtain ⟨n1, n2, n3⟩ := left_now h2
  refine ⟨e, c'.on s', by rw [h1'], n2, n3, hrd, ?_, fun hm he => ?_, fun he0 he1 => ⟨?_, ?_⟩⟩
  · show c'.off = false
    by_cases hbad : nm = tmpB ∨ okName nm = false
    · rw [(h4 hbad).2]
    · have := h3 (fun h => hbad (.inl h)) (by cases h : okName nm with | true => rfl | false => exact absurd (.inr h) hbad)
      rw [show c' = (Vs.ctl (sizeF L) s.cap (isFull s) da ⟨s, faults, 0, false, 0⟩).2 from congrArg Prod.snd this]
      exact ctl_on _ _ _ _ _ hno
  · by_cases hbad : nm = tmpB ∨ okName nm = false
    · rcases (h4 hbad).1 with h | h <;> omega
    · have := h3 (fun h => hbad (.inl h)) (by cases h : okName nm with | true => rfl | false => exact absurd (.inr h) hbad)
      have he2 : e = (Vs.ctl (sizeF L) s.cap (isFull s) da ⟨s, faults, 0, false, 0⟩).1 := congrArg Prod.fst this
      rcases hm with ⟨q1, q2⟩ | ⟨f, r, q1, q2, q3⟩
      · exact ctl_no (sizeF L) s.cap (isFull s) da _ q2 (by rw [hcap]; exact q1) (by rw [← he2]; exact he)
      · have := first_io (c := ⟨s, faults, 0, false, 0⟩) q1 rfl rfl q2 q3 (sizeF L) s.cap (isFull s) da
        rw [← he2, he] at this; cases this
  · show seen s'.bodies s'.now = L
    rw [n1]; unfold nowSeen; rw [if_neg (by omega)]
  · have := left_crash h2 n cuts
    unfold pickS at this
    rw [if_neg he0, if_neg he1] at this
    exact this
theorem lw_arm2 (C : PC PS) (B q : Nat) (v : Vs) (rows : Rws) (plan : List Flt) (pv : Value) (w0 w : World) (h : Lw PS B q v rows w0) (hB : B ≤ w0.heap.size) (hb : Below w0.heap.size w0 w) (hp : RowP w pv plan) (hpf : plan ≠ [] → ∀ k, pv.ownBlock = some k → w0.heap.size ≤ k) (hl : plan.length ≤ 4194304) :
    Calls Tryz.prog 11 #[.pointer (some ⟨q, 0, none⟩), pv] w fun e w' => e = .returned (.tuple #[]) ∧ Lw PS B q (v.arm plan) rows w' ∧ Below B w w' := by
  obtain ⟨G, h1, h2, h3⟩ := h
  have hlow := h1.low
  refine (fArm_c C G q v plan pv w (h1.below C hb) hp (fun hne k hk hG => by have := hpf hne k hk; have := hlow k hG; omega) hl).mono ?_
  rintro e w' ⟨rfl, hd⟩
  have hs := hb.size
  exact ⟨rfl, lw_did h2 (by omega) (fun r hr => ⟨(h3 r hr).1.on hb, (h3 r hr).2⟩) (h1.below C hb) hd⟩
end Go.Proofs.YtbbblncoicjacaaGreat
