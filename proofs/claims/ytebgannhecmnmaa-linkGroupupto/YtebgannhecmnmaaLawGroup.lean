
-- Proof of the given statement about LinkGroup, second form. The frame follows the guide's toys for such a statement and for a slice that came in; the walk and the lemmas are ours.
import Derived.Test.YtebgannhecmnmaaRows
import Derived.Test.YtebgannhecmnmaaOQ
import Derived.Test.YtebgannhecmnmaaWX
import Derived.WalkKit
import Derived.ProofKit
import Derived.OpenShut
import Derived.ShutString
import Derived.ChangeOld
import Derived.Below
import Derived.JoinedCond
import Derived.Deep.RegionWith
namespace Go.Proofs.Ytebgannhecmnmaa.linkGroup
open Go.ChangeShapes Go.WideShapes Go.ChangeAt Go.RowKit
open Go.ChangeMaps (open_string shut_string)
set_option linter.unusedVariables false

theorem own : ownKnob Try.prog.godebug = none := by kernel_rfl
theorem laidOut : laidOutB Try.prog = true := by kernel_rfl

theorem walk  (w : World) (v0 : Value) (lvs : List Lv) (Ls : List Lb) (vd vw vp : Value) (s : Lk) (hB : BulkQ Ls s) (hV : LibsAt (fun b => w.heap.size ≤ b) w v0 lvs Ls) (hd : RowT w vd s.d) (hw : RowT w vw s.w) (hp : RowP w vp s.p) :
    Calls Try.prog 7 #[v0, .agg #[vd, vw, vp]] w fun e w' => e = .returned (.bool true) ∧ Below w.heap.size w w' := by
  exact group_w v0 lvs Ls vd vw vp s w hB hV hd hw hp

set_option maxRecDepth 100000 in
theorem contract  (H : Type) (enc : TypeId × Value → H) (W : World) (base : Nat) (args : Array Value) (ds gs : List (DataW H)) (before : List MemPlace)
    (hval : ∀ (j : Nat) t v, Try.f7.params[j]? = some t → args[j]? = some v → Value.okWide Try.prog W .any base t v)
    (hW : DataW.Whole enc Try.prog Try.f7.params.toList Rows.linkGroupSpec.vars false W args.toList ds gs before) (hk : Rows.uptoSmall H (ds ++ gs) = true) :
    Calls Try.prog 7 args W fun e W' => ∃ v, e = .returned v ∧ Rows.linkGroupSpec.post enc Try.prog Try.f7 false true false false W args v W' := by
  have hW' := hW
  obtain ⟨p, q, hA0, hV, rfl, hfz, hnd⟩ := hW
  have hA : DataW.TrodAll enc Try.prog W 0 (fun _ => true) true Try.f7.params.toList args.toList ds p := hA0
  rw [Try.params7] at hA hval
  obtain ⟨v0, vs0, d0, ds0, p0, q0, hargs, rfl, rfl, h0, r0⟩ := trodAll_cons hA
  obtain ⟨v1, vs1, d1, ds1, p1, q1, rfl, rfl, rfl, h1, r1⟩ := trodAll_cons r0
  obtain ⟨rfl, rfl, rfl⟩ := trodAll_nil r1
  obtain rfl : args = #[v0, v1] := by have h := congrArg List.toArray hargs; rw [Array.toArray_toList] at h; exact h
  obtain ⟨rfl, rfl⟩ := trodVars_none hV
  simp only [List.append_nil] at hk
  have hBk : Rows.uptoBulkAll [d0, d1] ≤ 1048576 := of_decide_eq_true hk
  have hBk2 : Rows.uptoBulk d0 + Rows.uptoBulk d1 ≤ 1048576 := by simpa [Rows.uptoBulkAll] using hBk
  obtain ⟨x0, len0, cap0, rfl⟩ := okWide_slice Try.underlying22 (hval 0 22 v0 rfl rfl)
  have k0 := h0
  have lt0 : ∀ x ∈ p0, x.block < W.heap.size := by obtain ⟨m, hm⟩ := k0; exact DataW.trod_lt m _ _ _ hm
  obtain ⟨lvs, Ls, hV0, nb0, nb1, nb2⟩ : ∃ (lvs : List Lv) (Ls : List Lb), LibsAt (F0 W) W (.slice x0 len0 cap0) lvs Ls ∧ Ls.length ≤ Rows.uptoBulk d0 ∧ sizesN (numL Ls) ≤ Rows.uptoBulk d0 ∧ ∀ L ∈ Ls, L.e.length ≤ Rows.uptoBulk d0 ∧ L.a.length ≤ Rows.uptoBulk d0 ∧ (∀ l ∈ L.df, l.length ≤ Rows.uptoBulk d0) ∧ (∀ l ∈ L.nd, l.length ≤ Rows.uptoBulk d0) ∧ L.n.length ≤ Rows.uptoBulk d0 ∧ L.df.length ≤ Rows.uptoBulk d0 ∧ L.nd.length ≤ Rows.uptoBulk d0 := by
    obtain ⟨fuel, hf⟩ := h0
    exact open_libs hf
  have k1 := h1
  have lt1 : ∀ x ∈ p1, x.block < W.heap.size := by obtain ⟨m, hm⟩ := k1; exact DataW.trod_lt m _ _ _ hm
  obtain ⟨cs1, rfl, hcs1⟩ := okWide_struct Try.underlying26 (hval 1 26 v1 rfl rfl)
  obtain ⟨vd, vw, vp, s, rfl, hrd, hrw, hrp, nk⟩ := open_linkV h1
  have hBK0 : Bulk Ls s := ⟨by omega, fun L hL => by have := (nb2 L hL).1; omega, fun L hL => by have := (nb2 L hL).2.1; omega, fun L hL l hl => by have := (nb2 L hL).2.2.1 l hl; omega, fun L hL l hl => by have := (nb2 L hL).2.2.2.1 l hl; omega, by omega, by omega, by omega⟩
  have hBK : BulkQ Ls s := ⟨hBK0, fun L hL => by
    obtain ⟨k1, k2, k3, k4, k5, k6, k7⟩ := nb2 L hL
    exact ⟨by omega, by omega, by omega, by omega, by omega, fun l hl => by have := k3 l hl; omega, fun l hl => by have := k4 l hl; omega⟩⟩
  clear hA0
  refine (walk  W _ lvs Ls vd vw vp s hBK hV0 hrd hrw hrp).mono fun e W' ⟨he, bel⟩ => ?_
  subst he
  exact ⟨_, rfl, _, _, _, [], _, [], hW', trodAll_mk1 (shut_bool Try.underlying4 _), (trodAll_cons_mk (Below.trod laidOut (by kernel_rfl) (of_decide_eq_true (by kernel_rfl)) k0 bel lt0) (trodAll_cons_mk (Below.trod laidOut (by kernel_rfl) (of_decide_eq_true (by kernel_rfl)) k1 bel lt1) trodAll_mk0)), rfl, bel.frame _, fun h => by cases h⟩
set_option maxRecDepth 100000 in
theorem lifted  (os : Os) (started : os.Started) (H : Type) (enc : TypeId × Value → H) (F : Stop.Interp) :
    ReturnsInHanded {} Try.checked os 7 .any ((Rows.OpenSpec.upto Rows.linkGroupSpec).pre6 enc Try.prog Try.f7 Rows.linkGroupUptoRow.domain false) (((Rows.OpenSpec.upto Rows.linkGroupSpec).at F).post enc Try.prog Try.f7 false true false false) := by
  refine returnsInHanded_of_cond (C := Try.checked) (s := Rows.OpenSpec.upto Rows.linkGroupSpec) (k := Rows.uptoSmall) rfl own started (by kernel_rfl) Try.func7
    (OpenSpec.witness (enc := enc) (C := Try.checked) (s := Rows.OpenSpec.upto Rows.linkGroupSpec) (k := Rows.uptoSmall) rfl false ⟨#[], #[.slice none 0 0, .agg #[.slice none 0 0, .slice none 0 0, .slice none 0 0]], []⟩ 8 (by kernel_rfl) (by kernel_rfl) (by kernel_rfl)
      (x := ([.nil, .agg [.nil, .nil, .nil]], [], [])) (by kernel_rfl) rfl (by kernel_rfl)) ?_
  intro W base args ds gs before hval hW _ hk _
  exact contract  H enc W base args ds gs before hval hW hk
theorem proved  : Rows.LinkGroupUptoSaid :=
  OpenClaim.holds_of_cond 7 Try.f7 rfl rfl rfl rfl rfl rfl rfl ⟨rfl, rfl, rfl, rfl, rfl⟩ rfl rfl rfl rfl rfl (by kernel_rfl) Try.func7 (by kernel_rfl)
    (of_decide_eq_true (by kernel_rfl)) (by unfold Func.isWrapper; first | (rw [if_pos (by decide +kernel)]; kernel_rfl) | (rw [if_neg (by decide +kernel)]; exact ⟨rfl, rfl⟩))
    (fun os started H enc _ F => lifted  os started H enc F)
end Go.Proofs.Ytebgannhecmnmaa.linkGroup
namespace Go.Proofs.Ytebgannhecmnmaa
theorem linkGroup_holds  : Rows.LinkGroupUptoSaid := linkGroup.proved 
#print axioms linkGroup_holds
end Go.Proofs.Ytebgannhecmnmaa
