
-- misfit, its marks: a stage.
import Derived.Test.YtmhamlhmmkbkaaaDoorMA2
import Derived.Test.YtmhamlhmmkbkaaaDoorMN3
namespace Go.Proofs.YtmhamlhmmkbkaaaDoor
open Go.ChangeShapes Go.WideShapes Go.ChangeAt Go.RowKit Go.MapKept Go.Shelf
set_option linter.unusedVariables false
set_option maxRecDepth 100000
set_option linter.unusedSimpArgs false
set_option maxHeartbeats 40000000 in
theorem mx_N2 (w : World) (prog on kind wh : Int) (vb up qu det dat bare thin : Bool) (anc arc p : ByteArray) (an : Option Addr) (nl nc : Nat) (mv pu ch pb : Bool) (Q : Exit → Act → World → Prop) (hQ : ∀ c a d v w, Q (.panic c) (Act.put a d v) w → Q (.panic c) a w) (hfin : ∀ W9, W9.heap[w.heap.size + 1]? = some (.cells #[.string p, .bool (pb && !mv), .string ⟨#[117]⟩, .bool (up && (on != 114)), .string ⟨#[117]⟩, .bool (up && det), .string ⟨#[84]⟩, .bool (thin && !pu), .string ⟨#[84]⟩, .bool (thin && (kind == 2)), .string ⟨#[111]⟩, .bool (dat && (on != 120)), .string ⟨#[99]⟩, .bool (qu && !pu), .string ⟨#[83]⟩, .bool (bare && !ch)] 72 (0, 0)) → mxS w on kind up qu det dat bare thin W9 → Q .normal (mxF4 w prog on kind wh vb up qu det dat bare thin anc arc p an nl nc mv pu ch pb (.pointer (some ⟨w.heap.size + 1, 0, none⟩))) W9) (H1 : Hid (∀ W, Calls Tryd.prog 27 #[.int .u8 on, .string ⟨#[109, 114]⟩] W fun e w' => e = .returned (.bool mv) ∧ w' = W)) (H2 : Hid (∀ W, Calls Tryd.prog 27 #[.int .u8 on, .string ⟨#[114, 113]⟩] W fun e w' => e = .returned (.bool pu) ∧ w' = W)) (H3 : Hid (∀ W, Calls Tryd.prog 27 #[.int .u8 on, .string ⟨#[100, 109, 113, 114]⟩] W fun e w' => e = .returned (.bool ch) ∧ w' = W)) (HE27 : Hid (Enters Tryd.prog 27)) (hpb : p.toList.isEmpty = !pb) (W : World) (hsz : W.heap.size = w.heap.size + 1) (hS : mxS w on kind up qu det dat bare thin W) :
    wpAnyH Tryd.prog .any mxOps Q (mxS w on kind up qu det dat bare thin) 14 #[true, true, true, true, true, true, true, true, true, true, true, true, true, true, true, true, true, true, true, true, true, true, true, true, true, true, true, true, true, true, true, true, true, true, true, true, true, true, true, true, true, true, true, true, true, true, true, true, true, true, true, true, true, true, true, false, false, false, false, true, true, false, false, false, false, false, false, false, false, false, false] (mxF2 w prog on kind wh vb up qu det dat bare thin anc arc p an nl nc mv pu ch pb undef) W := by
  unfold mxF2
  refine wpAnyH_ready (rs := [55, 69]) (by kernel_rfl) (by simp) ?_
  refine AllReadyH.cons (o := { dst := some 63, op := Op.call { callee := Callee.value (Operand.func 27), args := #[Operand.tmp 62, Operand.const (Value.string { data := #[114, 113] })], argTypes := #[5, 9] }, type := 4, pos := "mix.go:27", after := #[{ on := 54, ground := Ground.data }, { on := 52, ground := Ground.chain }, { on := 52, ground := Ground.guard }], guard := some (52, true) }) rfl (fun K hK => ?_) ?_
  · refine ready_callG (u := qu) (r := .bool pu) (by cases qu <;> rfl) rfl (fun hu => by subst hu; exact H2.out _) (fun hu => by subst hu; rfl) (fun hu => by subst hu; rfl) HE27.out ?_
    refine hK.out _ _ hS (fun _ => ?_)
    clear hK K
    (try simp only [Act.put, List.setIfInBounds_toArray, List.set_cons_zero, List.set_cons_succ])
    refine wpAnyH_take (i := 56) (oi := { dst := some 64, op := Op.unOp UnOp.not 4 (Operand.tmp 63), type := 4, pos := "mix.go:20", after := #[{ on := 55, ground := Ground.data }, { on := 52, ground := Ground.guard }], guard := some (52, true) }) (v := cond qu (.bool (!pu)) undef) rfl (by kernel_rfl) (by kernel_rfl) (by kernel_rfl) (fun _ _ _ h => hQ _ _ _ _ _ h) (by cases qu with | false => exact Or.inr ⟨rfl, rfl⟩ | true => exact Or.inl ⟨rfl, fun w hSw => by unfold mxS at hSw; go_simp⟩) hS ?_
    (try simp only [Act.put, List.setIfInBounds_toArray, List.set_cons_zero, List.set_cons_succ])
    refine wpAnyH_take (i := 57) (oi := { dst := some 65, op := Op.pick (Operand.tmp 60) (Operand.tmp 64) (Operand.const (Value.bool false)), type := 4, pos := "mix.go:20", after := #[{ on := 52, ground := Ground.data }, { on := 56, ground := Ground.data }], guard := none }) (v := .bool (qu && !pu)) rfl (by kernel_rfl) (by kernel_rfl) (by kernel_rfl) (fun _ _ _ h => hQ _ _ _ _ _ h) (by cases qu <;> exact Or.inl ⟨rfl, fun w hSw => by go_simp⟩) hS ?_
    (try simp only [Act.put, List.setIfInBounds_toArray, List.set_cons_zero, List.set_cons_succ])
    refine wpAnyH_take (i := 58) (oi := { dst := some 66, op := Op.build 67 #[(0, Operand.const (Value.string { data := #[99] })), (1, Operand.tmp 65)], type := 67, pos := "mix.go:20", after := #[{ on := 57, ground := Ground.data }], guard := none }) (v := .agg #[.string ⟨#[99]⟩, .bool (qu && !pu)]) rfl (by kernel_rfl) (by kernel_rfl) (by kernel_rfl) (fun _ _ _ h => hQ _ _ _ _ _ h) (Or.inl ⟨rfl, fun w hSw => by unfold mxS at hSw; go_simp⟩) hS ?_
    (try simp only [Act.put, List.setIfInBounds_toArray, List.set_cons_zero, List.set_cons_succ])
    refine wpAnyH_take (i := 61) (oi := { dst := some 69, op := Op.move (Operand.tmp 68), type := 4, pos := "mix.go:20", after := #[{ on := 60, ground := Ground.data }, { on := 55, ground := Ground.chain }], guard := none }) (v := .bool bare) rfl (by kernel_rfl) (by kernel_rfl) (by kernel_rfl) (fun _ _ _ h => hQ _ _ _ _ _ h) (Or.inl ⟨rfl, fun w hSw => by unfold mxS at hSw; go_simp⟩) hS ?_
    (try simp only [Act.put, List.setIfInBounds_toArray, List.set_cons_zero, List.set_cons_succ])
    refine wpAnyH_take (i := 62) (oi := { dst := some 70, op := Op.fieldAddr 27 (Operand.tmp 2) 1, type := 0, pos := "mix.go:20", after := #[{ on := 61, ground := Ground.guard }], guard := some (61, true) }) (v := cond bare (.pointer (some ⟨w.heap.size, 1, none⟩)) undef) rfl (by kernel_rfl) (by kernel_rfl) (by kernel_rfl) (fun _ _ _ h => hQ _ _ _ _ _ h) (by cases bare with | false => exact Or.inr ⟨rfl, rfl⟩ | true => exact Or.inl ⟨rfl, fun w hSw => by unfold mxS at hSw; go_simp⟩) hS ?_
    (try simp only [Act.put, List.setIfInBounds_toArray, List.set_cons_zero, List.set_cons_succ])
    refine wpAnyH_take (i := 63) (oi := { dst := some 71, op := Op.load 5 (Operand.tmp 70), type := 5, pos := "mix.go:20", after := #[{ on := 62, ground := Ground.data }, { on := 61, ground := Ground.guard }], guard := some (61, true) }) (v := cond bare (.int .u8 on) undef) rfl (by kernel_rfl) (by kernel_rfl) (by kernel_rfl) (fun _ _ _ h => hQ _ _ _ _ _ h) (by cases bare with | false => exact Or.inr ⟨rfl, rfl⟩ | true => exact Or.inl ⟨rfl, fun w hSw => by unfold mxS at hSw; go_simp⟩) hS ?_
    (try simp only [Act.put, List.setIfInBounds_toArray, List.set_cons_zero, List.set_cons_succ])
    exact mx_N3 w prog on kind wh vb up qu det dat bare thin anc arc p an nl nc mv pu ch pb Q hQ hfin H1 H2 H3 HE27 hpb W hsz hS
  refine AllReadyH.cons (o := { dst := some 5, op := Op.alloc 72, type := 0, pos := "mix.go:20", after := #[], guard := none }) rfl (fun K hK => ?_) ?_
  · go_simp
    have HP5 : (W.alloc (.cells #[.string ⟨#[]⟩, .bool false, .string ⟨#[]⟩, .bool false, .string ⟨#[]⟩, .bool false, .string ⟨#[]⟩, .bool false, .string ⟨#[]⟩, .bool false, .string ⟨#[]⟩, .bool false, .string ⟨#[]⟩, .bool false, .string ⟨#[]⟩, .bool false] 72)).heap[w.heap.size + 1]? = some (.cells #[.string ⟨#[]⟩, .bool false, .string ⟨#[]⟩, .bool false, .string ⟨#[]⟩, .bool false, .string ⟨#[]⟩, .bool false, .string ⟨#[]⟩, .bool false, .string ⟨#[]⟩, .bool false, .string ⟨#[]⟩, .bool false, .string ⟨#[]⟩, .bool false] 72 (0, 0)) := by rw [← hsz]; exact heap_alloc_new W _
    refine hK.out _ _ (mxS_A hS _) (fun hS => ?_)
    clear hK K
    (try simp only [Act.put, List.setIfInBounds_toArray, List.set_cons_zero, List.set_cons_succ])
    exact mx_A2 w prog on kind wh vb up qu det dat bare thin anc arc p an nl nc mv pu ch pb Q hQ hfin H1 H2 H3 HE27 hpb _ HP5 hS
  exact AllReadyH.nil
end Go.Proofs.YtmhamlhmmkbkaaaDoor
