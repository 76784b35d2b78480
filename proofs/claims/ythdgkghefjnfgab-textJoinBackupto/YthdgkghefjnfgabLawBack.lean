-- Proof of the given statement about TextJoinBack, second form. The frame follows the guide's toys for such a statement and for a slice that came in; the walk and the lemmas are ours.
import Derived.Test.YthdgkghefjnfgabRows
import Derived.Test.YthdgkghefjnfgabJoin
import Derived.Test.YthdgkghefjnfgabSameB
import Derived.Test.YthdgkghefjnfgabInner
import Derived.WalkKit
import Derived.ProofKit
import Derived.OpenShut
import Derived.ShutString
import Derived.ChangeOld
import Derived.Below
import Derived.SliceStrings
import Derived.JoinedCond
import Derived.Deep.RegionWith
namespace Go.Proofs.Ythdgkghefjnfgab.textJoinBack
open Go.ChangeShapes Go.WideShapes Go.ChangeAt Go.RowKit
set_option linter.unusedVariables false

theorem own : ownKnob Try.prog.godebug = none := by kernel_rfl
theorem laidOut : laidOutB Try.prog = true := by kernel_rfl
theorem bulk_strs {H : Type} (l : List ByteArray) : Rows.uptoBulkAll (strs (H := H) l) = tot l := by
  induction l with
  | nil => rfl
  | cons b r ih =>
    have e : b.data.toList.length = b.size := by rw [Array.length_toList]; rfl
    have t : tot (b :: r) = b.size + 1 + tot r := by simp [tot]
    rw [t, ← ih]
    show Rows.uptoBulk (DataW.lit (H := H) (.string b.data.toList)) + Rows.uptoBulkAll (strs (H := H) r) = _
    simp only [Rows.uptoBulk, e]
theorem own_weaken {w : World} {B B' : Nat} {e : TypeId} {size : Nat} {v : Value} {n : Nat} {xs : List Value} (h : w.ownsRow B e size v n xs) (hB : B' ≤ B) : w.ownsRow B' e size v n xs := by
  refine ⟨h.1, ?_⟩
  rcases h.2 with h2 | ⟨g, cap, cur, hv, hg, r⟩
  · exact .inl h2
  · exact .inr ⟨g, cap, cur, hv, by omega, r⟩
theorem add_plain' (b off j : Nat) : (⟨b, off, none⟩ : Addr).add j = ⟨b, off + j, none⟩ := by
  unfold Addr.add
  split
  · simp_all
  · simp
theorem row_cells {w : World} {b off : Nat} {l : List ByteArray} (hc : ∀ j, j < l.length → w.cell? ⟨b, off + j, none⟩ = some (.string (l.getD j .empty))) : ∀ j u, (strV l)[j]? = some u → w.cell? ((⟨b, off, none⟩ : Addr).add j) = some u := by
  intro j u hj
  have hlt : j < l.length := by
    have := (List.getElem?_eq_some_iff.1 hj).1
    rwa [strV_length] at this
  rw [add_plain', hc j hlt]
  rw [← hj]
  simp [strV, List.getD, List.getElem?_eq_getElem hlt]
theorem strV_one (l : List ByteArray) : ∀ u ∈ strV l, u.oneCell' = true := by
  intro u hu
  simp only [strV, List.mem_map] at hu
  obtain ⟨b, _, rfl⟩ := hu
  rfl
theorem row_below {w w' : World} {v : Value} {l : List ByteArray} (h : RowS w v l) (hb : Below w.heap.size w w') : RowS w' v l := by
  rcases h with h | ⟨b, off, cap, rfl, hc⟩
  · exact .inl h
  · refine .inr ⟨b, off, cap, rfl, fun j hj => ?_⟩
    have h0 := hc j hj
    exact (hb.cell (p := ⟨b, off + j, none⟩) (World.block_lt_of_cell? w _ h0)).trans h0

theorem walk (v0 : Value) (l0 : List ByteArray) (w : World) (r0 : RowS w v0 l0) (t0 : tot l0 ≤ 1048575) :
    Calls Try.prog 7 #[v0] w fun e w' => e = .returned (.bool true) ∧ Below w.heap.size w w' := by
  have hlen : l0.length ≤ 1048576 := by
    have : l0.length ≤ tot l0 := by
      clear r0 t0
      induction l0 with
      | nil => simp
      | cons v r ih => have t : tot (v :: r) = v.size + 1 + tot r := by simp [tot]
                       simp only [List.length_cons]; omega
    omega
  obtain ⟨i0, hi, hz0, hz1, hz2⟩ := info_parts info9
  have HL : Hid (wordsL (ljoin l0) = .inr l0) := by
    show _ = _
    unfold ljoin
    rw [words_join, List.map_map]
    congr 1
    have : (strB ∘ fun b : ByteArray => b.data.toList) = id := by
      funext b; exact strB_lsq b
    rw [this, List.map_id]
  have hjl : (strB (ljoin l0)).size ≤ 4194304 := by
    have := join_len l0
    have e : (strB (ljoin l0)).size = (ljoin l0).length := by simp [strB, ByteArray.size]
    rw [e]; show (joinL _).length ≤ _; omega
  have HW : Hid (∀ w, Calls Try.prog 14 #[.string (strB (ljoin l0))] w (WordsGave (.inr l0) w)) := fun w => by
    have := words_c (strB (ljoin l0)) w hjl
    have e : lst (strB (ljoin l0)) = ljoin l0 := by simp [lst, strB]
    rwa [e, HL.out] at this
  have HJ : Hid (∀ v w, RowS w v l0 → Calls Try.prog 13 #[v] w fun e w' => e = .returned (.string (strB (ljoin l0))) ∧ Below w.heap.size w w') := fun v w h => join_c v l0 w h (by omega)
  obtain ⟨line, hline⟩ : ∃ line, line = strB (ljoin l0) := ⟨_, rfl⟩
  rw [← hline] at HW HJ
  have HR0 : Hid (RowS w v0 l0) := r0
  have HS : Hid (∀ (va : Value) (w' : World), w'.ownsRow w.heap.size 9 1 va l0.length (strV l0) → RowS w' v0 l0 → Calls Try.prog 16 #[va, v0] w' fun e w'' => e = .returned (.bool true) ∧ ∃ n, w'' = w'.drewN n) := fun va w' h1 h2 => by
    have := same_c va v0 l0 l0 w' (RowS.of_own h1) h2 (by omega) (by omega)
    rwa [decide_eq_true (rfl : l0 = l0)] at this
  clear hline hjl HL t0
  -- the copy, whatever the slice
  have fin : ∀ (v' : Value) (w1 : World), RowS w1 v' l0 → Below w.heap.size w w1 → True := fun _ _ _ _ => trivial
  clear fin
  rcases r0 with ⟨hl0, ao, c, rfl⟩ | ⟨b, off, cap, rfl, hc⟩
  · rcases ao with _ | ad
    · go_enter Try.func7, Try.ntmps7
      go_wp2_with (first
        | (go_at_call 13; refine (HJ.out _ _ (by exact .inl ⟨hl0, _, _, rfl⟩)).mono ?_; rintro e w1 ⟨rfl, hb1⟩)
        | (go_at_call 14; refine (HW.out _).mono ?_; rintro e w2 ⟨hb2, v2, rfl, ho2⟩)
        | (go_at_call 15; refine (num_c _ _).mono ?_; rintro e w4 ⟨rfl, hw4⟩; subst w4)
        | (go_at_call 16; refine (HS.out _ _ (own_weaken ho2 hb1.size) (.inl ⟨hl0, _, _, rfl⟩)).mono ?_; rintro e w3 ⟨rfl, n3, hw3⟩; subst w3))
      go_returns
      exact ⟨rfl, below_drewN (hb1.trans (hb2.mono hb1.size)) _⟩
    · go_enter Try.func7, Try.ntmps7
      go_wp2_with (first
        | (at_builtin; refine wpList_append_own _ rfl _ _ 27 rfl w.heap.size 9 i0 (.string ⟨#[]⟩) 1 16 Try.underlying27 hi hz0 hz1 hz2 rfl (by decide) _ _ _ rfl (World.ownsRow_nil _ _ _ _) ad 0 c [] rfl rfl (fun j u hj => by simp at hj) (fun u hu => by simp at hu) (by decide) (by decide) (Nat.le_refl _) ?_; intro v' w1 ho1 hg1 _; have hbb1 : Below w.heap.size w w1 := (Below.refl _ w).grown hg1 (Nat.le_refl _) (fun k hk => by cases hk); have hr1 : RowS w1 v' l0 := RowS.of_own (l := l0) (by rw [hl0]; exact ho1))
        | (go_at_call 13; refine (HJ.out _ _ hr1).mono ?_; rintro e w2 ⟨rfl, hb2⟩)
        | (go_at_call 14; refine (HW.out _).mono ?_; rintro e w3 ⟨hb3, v3, rfl, ho3⟩)
        | (go_at_call 15; refine (num_c _ _).mono ?_; rintro e w4 ⟨rfl, hw4⟩; subst w4)
        | (go_at_call 16; refine (HS.out _ _ (own_weaken ho3 (Nat.le_trans hbb1.size hb2.size)) (.inl ⟨hl0, _, _, rfl⟩)).mono ?_; rintro e w5 ⟨rfl, n5, hw5⟩; subst w5))
      go_returns
      have hbb2 := hbb1.trans (hb2.mono hbb1.size)
      exact ⟨rfl, below_drewN (hbb2.trans (hb3.mono hbb2.size)) _⟩
  · have HN : Hid (∀ j u, (strV l0)[j]? = some u → w.cell? ((⟨b, off, none⟩ : Addr).add j) = some u) := fun j u hj => row_cells hc j u hj
    have hcl : (strV l0).length = l0.length * 1 := by rw [strV_length]; omega
    have hb1m : 0 + l0.length ≤ maxLen := by unfold maxLen; omega
    have hb2m : (0 + l0.length) * 16 ≤ 140737488355328 := by omega
    clear hc
    go_enter Try.func7, Try.ntmps7
    go_wp2_with (first
      | (at_builtin; refine wpList_append_own _ rfl _ _ 27 rfl w.heap.size 9 i0 (.string ⟨#[]⟩) 1 16 Try.underlying27 hi hz0 hz1 hz2 rfl (by decide) _ _ _ rfl (World.ownsRow_nil _ _ _ _) ⟨b, off, none⟩ l0.length cap (strV l0) rfl hcl HN.out (strV_one l0) hb1m hb2m (Nat.le_refl _) ?_; intro v' w1 ho1 hg1 _; have hbb1 : Below w.heap.size w w1 := (Below.refl _ w).grown hg1 (Nat.le_refl _) (fun k hk => by cases hk); have hr1 : RowS w1 v' l0 := RowS.of_own (l := l0) (by simpa using ho1))
      | (go_at_call 13; refine (HJ.out _ _ hr1).mono ?_; rintro e w2 ⟨rfl, hb2⟩)
      | (go_at_call 14; refine (HW.out _).mono ?_; rintro e w3 ⟨hb3, v3, rfl, ho3⟩; have hbb2 := hbb1.trans (hb2.mono hbb1.size); have hbb3 := hbb2.trans (hb3.mono hbb2.size))
      | (go_at_call 15; refine (num_c _ _).mono ?_; rintro e w4 ⟨rfl, hw4⟩; subst w4)
      | (go_at_call 16; refine (HS.out _ _ (own_weaken ho3 (Nat.le_trans hbb1.size hb2.size)) (row_below HR0.out hbb3)).mono ?_; rintro e w5 ⟨rfl, n5, hw5⟩; subst w5))
    go_returns
    exact ⟨rfl, below_drewN hbb3 _⟩

theorem contract (H : Type) (enc : TypeId × Value → H) (W : World) (base : Nat) (args : Array Value) (ds gs : List (DataW H)) (before : List MemPlace)
    (hval : ∀ (j : Nat) t v, Try.f7.params[j]? = some t → args[j]? = some v → Value.okWide Try.prog W .any base t v)
    (hW : DataW.Whole enc Try.prog Try.f7.params.toList Rows.textJoinBackSpec.vars false W args.toList ds gs before) (hk : Rows.uptoSmall H (ds ++ gs) = true) :
    Calls Try.prog 7 args W fun e W' => ∃ v, e = .returned v ∧ Rows.textJoinBackSpec.post enc Try.prog Try.f7 false true false false W args v W' := by
  have hW' := hW
  obtain ⟨p, q, hA0, hV, rfl, hfz, hnd⟩ := hW
  have hA : DataW.TrodAll enc Try.prog W 0 (fun _ => true) true Try.f7.params.toList args.toList ds p := hA0
  rw [Try.params7] at hA hval
  obtain ⟨v0, vs0, d0, ds0, p0, q0, hargs, rfl, rfl, h0, r0⟩ := trodAll_cons hA
  obtain ⟨rfl, rfl, rfl⟩ := trodAll_nil r0
  obtain rfl : args = #[v0] := by cases args; simp_all
  obtain ⟨rfl, rfl⟩ := trodVars_none hV
  obtain ⟨a0, len0, cap0, rfl⟩ := okWide_slice Try.underlying27 (hval 0 27 v0 rfl rfl)
  have k0 := h0
  have lt0 : ∀ x ∈ p0, x.block < W.heap.size := by obtain ⟨m, hm⟩ := k0; exact DataW.trod_lt m _ _ _ hm
  simp only [List.append_nil] at hk
  have hB : Rows.uptoBulkAll [d0] ≤ 1048576 := of_decide_eq_true hk
  obtain ⟨l0, w0, t0⟩ : ∃ l, RowS W (.slice a0 len0 cap0) l ∧ tot l ≤ 1048575 := by
    obtain ⟨fuel, hf⟩ := h0
    rcases open_strings Try.underlying27 Try.underlying9 (by kernel_rfl) hf with ⟨hcs, _⟩ | ⟨x, l, c, ss, hcs, _, hl, hm, hz, hd, hcell, hwz⟩
    · simp [Value.cells] at hcs
      obtain ⟨rfl, rfl, rfl⟩ := hcs
      exact ⟨[], .inl ⟨rfl, _, _, rfl⟩, by simp [tot]⟩
    · simp [Value.cells] at hcs
      obtain ⟨rfl, rfl, rfl⟩ := hcs
      have hd' := congrArg Prod.fst hd
      simp only [] at hd'
      subst hd'
      have hlen : ss.length = cap0 := by simpa using hz
      refine ⟨ss.take len0, ?_, ?_⟩
      · rcases Nat.eq_zero_or_pos len0 with h0 | h0
        · subst h0
          exact .inl ⟨by simp, _, _, rfl⟩
        · obtain ⟨b, off, spot⟩ := x
          have hc := hcell 0 (by omega)
          have hspot : spot = none := by simpa [Addr.add] using World.cell?_spot hc
          subst hspot
          refine .inr ⟨b, off, cap0, by rw [List.length_take, hlen, Nat.min_eq_left hl], fun j hj => ?_⟩
          rw [List.length_take, hlen, Nat.min_eq_left hl] at hj
          have hc := hcell j (by omega)
          have e : (⟨b, off, none⟩ : Addr).add j = ⟨b, off + j, none⟩ := by
            unfold Addr.add
            split
            · simp_all
            · simp
          rw [e] at hc
          rw [hc]
          simp [List.getD, hj]
      · simp only [Rows.uptoBulkAll, Rows.uptoBulk, bulk_strs] at hB
        omega
  clear hA0
  refine (walk (.slice a0 len0 cap0) l0 W w0 t0).mono fun e W' ⟨he, bel⟩ => ?_
  subst he
  exact ⟨_, rfl, _, _, _, [], _, [], hW', trodAll_mk1 (shut_bool Try.underlying4 _), (trodAll_cons_mk (Below.trod laidOut (by kernel_rfl) (of_decide_eq_true (by kernel_rfl)) k0 bel lt0) trodAll_mk0), rfl, bel.frame _, fun h => by cases h⟩
set_option maxRecDepth 100000 in
theorem lifted (os : Os) (started : os.Started) (H : Type) (enc : TypeId × Value → H) (F : Stop.Interp) :
    ReturnsInHanded {} Try.checked os 7 .any ((Rows.OpenSpec.upto Rows.textJoinBackSpec).pre6 enc Try.prog Try.f7 Rows.textJoinBackUptoRow.domain false) (((Rows.OpenSpec.upto Rows.textJoinBackSpec).at F).post enc Try.prog Try.f7 false true false false) := by
  refine returnsInHanded_of_cond (C := Try.checked) (s := Rows.OpenSpec.upto Rows.textJoinBackSpec) (k := Rows.uptoSmall) rfl own started (by kernel_rfl) Try.func7
    (OpenSpec.witness (enc := enc) (C := Try.checked) (s := Rows.OpenSpec.upto Rows.textJoinBackSpec) (k := Rows.uptoSmall) rfl false ⟨#[], #[.slice none 0 0], []⟩ 8 (by kernel_rfl) (by kernel_rfl) (by kernel_rfl)
      (x := ([.nil], [], [])) (by kernel_rfl) rfl (by kernel_rfl)) ?_
  intro W base args ds gs before hval hW _ hk _
  exact contract H enc W base args ds gs before hval hW hk
theorem proved : Rows.TextJoinBackUptoSaid :=
  OpenClaim.holds_of_cond 7 Try.f7 rfl rfl rfl rfl rfl rfl rfl ⟨rfl, rfl, rfl, rfl, rfl⟩ rfl rfl rfl rfl rfl (by kernel_rfl) Try.func7 (by kernel_rfl)
    (of_decide_eq_true (by kernel_rfl)) (by unfold Func.isWrapper; first | (rw [if_pos (by decide +kernel)]; kernel_rfl) | (rw [if_neg (by decide +kernel)]; exact ⟨rfl, rfl⟩))
    (fun os started H enc _ F => lifted os started H enc F)
end Go.Proofs.Ythdgkghefjnfgab.textJoinBack
namespace Go.Proofs.Ythdgkghefjnfgab
theorem textJoinBack_holds : Rows.TextJoinBackUptoSaid := textJoinBack.proved
#print axioms textJoinBack_holds
end Go.Proofs.Ythdgkghefjnfgab
