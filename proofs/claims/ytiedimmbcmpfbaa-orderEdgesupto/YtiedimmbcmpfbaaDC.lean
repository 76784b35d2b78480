
-- newDistinct, distinctOf.
import Derived.Test.YtiedimmbcmpfbaaDB
namespace Go.Proofs.Ytiedimmbcmpfbaa
open Go.ChangeShapes Go.WideShapes Go.ChangeAt Go.RowKit Go.MapKept
set_option linter.unusedVariables false
set_option maxRecDepth 100000
theorem ds_new {α : Type} [DecidableEq α] {c : α → List Value} {z e T : Nat} {K : Value → Prop} {kf : α → Value} (w : World) (hne : e ≠ T) :
    DsX c z e T K kf (fun b => w.heap.size ≤ b) (w.heap.size + 1) [] [] ((w.alloc (.map #[] 0)).alloc (.cells #[.slice none 0 0, .map (some w.heap.size)] T)) (.slice none 0 0) w.heap.size ∧ Below w.heap.size w ((w.alloc (.map #[] 0)).alloc (.cells #[.slice none 0 0, .map (some w.heap.size)] T)) := by
  have hb1 : Below w.heap.size w (w.alloc (.map #[] 0)) := (Below.refl _ _).alloc (Nat.le_refl _) _
  have hb2 : Below (w.alloc (.map #[] 0)).heap.size (w.alloc (.map #[] 0)) ((w.alloc (.map #[] 0)).alloc (.cells #[.slice none 0 0, .map (some w.heap.size)] T)) := (Below.refl _ _).alloc (Nat.le_refl _) _
  refine ⟨⟨heap_new2K _ _ _, Nat.le_succ _, Nat.le_refl _, OwnF.nil, ?_, hne⟩, hb1.trans (hb2.mono (by simp))⟩
  exact ((MpAt.made K kf w).congr (fun x => rfl)).on hb2
theorem wp_make0 {P : Program} (w : World) {ops : Array Oper} {rest : List Oper} {o : Oper} {a : Act} {Q : Exit → Act → World → Prop} (hg : o.guard = none) (t : TypeId) (hop : o.op = Op.makeMap t none)
    (hK : wpList P ops Q rest (a.put o.dst (.map (some w.heap.size))) (w.alloc (.map #[] 0))) : wpList P ops Q (o :: rest) a w := by
  refine wpList_plain hg fun K' hK' => ?_
  have hrun : (Instr.makeMap t none).run P w = .ok (.map (some w.heap.size)) (w.alloc (.map #[] 0)) := by
    simp [Instr.makeMap, newObj, Result.andThen]
    rfl
  unfold Oper.wp
  simp [execOp, hop, hrun, Result.andThen]
  exact hK' _ _ hK
set_option maxHeartbeats 1000000 in
theorem newE_c (w : World) : Calls Try.prog 11 #[] w fun e w' => e = .returned (.pointer (some ⟨w.heap.size + 1, 0, none⟩)) ∧ DsE (fun b => w.heap.size ≤ b) (w.heap.size + 1) [] [] w' (.slice none 0 0) w.heap.size ∧ Below w.heap.size w w' := by
  have H := hidK (ds_new (c := edL) (z := 2) (e := 38) (T := 43) (K := IsEd) (kf := edV) w (by decide))
  go_enter Try.func11, Try.ntmps11
  go_wp2_with (refine wp_make0 _ rfl 41 rfl ?_)
  go_ret
  exact ⟨rfl, H.out.1, H.out.2⟩
set_option maxHeartbeats 1000000 in
theorem newT_c (w : World) : Calls Try.prog 17 #[] w fun e w' => e = .returned (.pointer (some ⟨w.heap.size + 1, 0, none⟩)) ∧ DsT (fun b => w.heap.size ≤ b) (w.heap.size + 1) [] [] w' (.slice none 0 0) w.heap.size ∧ Below w.heap.size w w' := by
  have H := hidK (ds_new (c := txL) (z := 1) (e := 9) (T := 54) (K := IsSt) (kf := Value.string) w (by decide))
  go_enter Try.func17, Try.ntmps17
  go_wp2_with (refine wp_make0 _ rfl 52 rfl ?_)
  go_ret
  exact ⟨rfl, H.out.1, H.out.2⟩
/-- each thing where it stands first -/
def dedD {α : Type} [DecidableEq α] (L : List α) : List α := L.foldl addD []
theorem addD_len {α : Type} [DecidableEq α] (L : List α) (x : α) : (addD L x).length ≤ L.length + 1 := by unfold addD; split <;> simp
theorem fold_addD_len {α : Type} [DecidableEq α] (M : List α) : ∀ L : List α, (M.foldl addD L).length ≤ L.length + M.length := by
  induction M with
  | nil => intro L; simp
  | cons x r ih => intro L; rw [List.foldl_cons]; have := ih (addD L x); have := addD_len L x; simp only [List.length_cons]; omega
theorem dedD_len {α : Type} [DecidableEq α] (L : List α) : (dedD L).length ≤ L.length := by have := fold_addD_len L []; simp at this; exact this
set_option maxHeartbeats 4000000 in
theorem distinctT_c (v : Value) (L : List ByteArray) (w : World) (h : RowT w v L) (hn : L.length ≤ 4398046511104) :
    Calls Try.prog 13 #[v] w fun e w' => ∃ a l c, e = .returned (.slice a l c) ∧ OwnF (fun b => w.heap.size ≤ b) txL 1 9 w' (.slice a l c) (dedD L) ∧ Below w.heap.size w w' := by
  obtain ⟨a1, c1, q1, _, _⟩ := h.form
  obtain ⟨n, hnn⟩ : ∃ n, n = L.length := ⟨_, rfl⟩
  have HN := hidK hnn
  have HV := hidK h
  subst q1
  rw [← hnn] at hn ⊢ HV
  clear h hnn
  have HNW := hidK (newT_c w)
  go_enter Try.func13, Try.ntmps13
  go_wp2_with (go_at_call 17; refine HNW.out.mono ?_; rintro e w1 ⟨rfl, hd1, hb1⟩; have HD1 := hidK hd1; have HB1 := hidK hb1; clear hd1 hb1)
  go_loopw [9] (fun i wx => ∃ (k : Nat) (vl : Value), i = .int .i64 k ∧ k ≤ n ∧ DsT (fun b => w.heap.size ≤ b) (w.heap.size + 1) (dedD (L.take k)) (dedD (L.take k)) wx vl w.heap.size ∧ Below w.heap.size w wx) (fun i _ => n - (intOf i).toNat)
  case atStart => exact ⟨0, _, rfl, Nat.zero_le _, HD1.out, HB1.out⟩
  case round =>
    obtain ⟨k, vl, rfl, hkn, ho, hB⟩ := hrel
    have HO := hidK ho
    by_cases hk : k < n
    · have kI : (k : Int) < (n : Int) := by omega
      have k0 : (0 : Int) ≤ (k : Int) := by omega
      have hkl : k < L.length := by have := HN.out; omega
      obtain ⟨x, hx⟩ : ∃ x, L[k]? = some x := ⟨_, List.getElem?_eq_getElem hkl⟩
      obtain ⟨b1, o1, p1, e1, d0⟩ := (HV.out.on hB).tx hx
      have HX := hidK hx
      injection e1 with e1 e1b e1c
      subst e1
      have HA := hidK (addT_c (fun b => w.heap.size ≤ b) (w.heap.size + 1) (dedD (L.take k)) x vl w.heap.size wr ho (fun b hb => Nat.le_trans hB.size hb) (by have h1 := dedD_len (L.take k); have h2 := List.length_take_le k L; omega))
      have HB0 := hidK hB
      clear hx hkl e1b e1c HV HD1 HB1 HNW ho hB
      go_wp2_with (go_at_call 18; refine HA.out.mono ?_; rintro e w2 ⟨rfl, ⟨vl', hs1⟩, hk1⟩; have HS := hidK hs1; have HB2 := hidK (HB0.out.trans (hk1.below (fun k hk => hk) HB0.out.size)); clear hs1 hk1)
      go_roundw
      case rel => exact ⟨k + 1, vl', by go_num, by omega, by rw [takeSucc HX.out, dedD, List.foldl_append]; exact HS.out, HB2.out⟩
      case measure => simp [intOf]; omega
    · obtain rfl : k = n := by omega
      obtain ⟨c0, c1⟩ := ho.c0
      obtain ⟨a5, p5, q5, _⟩ := ho.own.form
      obtain ⟨m5, hm5⟩ : ∃ m, m = (dedD (L.take k)).length := ⟨_, rfl⟩
      rw [← hm5] at q5
      subst q5
      have HB0 := hidK hB
      clear HV HD1 HB1 HNW ho hB hm5
      go_wp2
      go_ret
      refine ⟨_, _, _, rfl, ?_, HB0.out⟩
      have := HO.out.own
      rw [HN.out, List.take_length] at this
      exact this
end Go.Proofs.Ytiedimmbcmpfbaa
