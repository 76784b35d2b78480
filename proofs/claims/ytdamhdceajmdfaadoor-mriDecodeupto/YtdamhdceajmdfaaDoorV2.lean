
-- numberOf: which verb a word spells.
import Derived.Test.YtdamhdceajmdfaaDoorV1
namespace Go.Proofs.YtdamhdceajmdfaaDoor
open Go.ChangeShapes Go.WideShapes Go.ChangeAt Go.RowKit Go.MapKept
set_option linter.unusedVariables false
set_option maxRecDepth 100000
set_option linter.unusedSimpArgs false
theorem at_byL (s : ByteArray) (k : Nat) (hk : k < s.size) : (byL s)[k]? = some s[k] := by
  unfold byL
  rw [Array.getElem?_toList, Array.getElem?_eq_getElem hk]; rfl
theorem idx19 (s : ByteArray) (k : Nat) (b : UInt8) (hb : (byL s)[k]? = some b) : ∀ w, (Instr.index 9 (.string s) (.int .i64 (k : Int))).run Tryd.prog w = .ok (.int .u8 (b.toNat : Int)) w := by
  intro w
  have hk : k < s.size := by have := (List.getElem?_eq_some_iff.1 hb).1; rwa [byL_size] at this
  rw [run_index_string w 9 s .i64 k Tryd.underlying9, dif_pos (by omega)]
  have : s[k] = b := by have := at_byL s k hk; rw [hb] at this; injection this with this; exact this.symm
  simp [this]
def upTo (v w : List UInt8) (p : Nat) : Prop := ∀ i, i < p → v[i]? = (w.map capB)[i]?
set_option maxHeartbeats 4000000 in
theorem spells_c (s v : ByteArray) (w : World) (hv : ∀ b ∈ byL v, b.toNat < 128) (hs : s.size ≤ 33554432) (hvs : v.size ≤ 9) : Calls Tryd.prog 53 #[.string s, .string v] w fun e w' => e = .returned (.bool (decide (byL v = (byL s).map capB))) ∧ Below w.heap.size w w' := by
  by_cases hz : s.size = v.size
  · have hz' : ((s.size : Int) != (v.size : Int)) = false := by simp [hz]
    have HZ := hidK hz
    have H0 := heap_alloc_new w (.stringIter v 0)
    go_enter Tryd.func53, Tryd.ntmps53
    clear hz
    go_wp2
    go_loopw [] (fun wr => ∃ pos, pos ≤ v.size ∧ wr.heap[w.heap.size]? = some (.stringIter v pos) ∧ Below w.heap.size w wr ∧ upTo (byL v) (byL s) pos) (fun wr => v.size - wr.iterPos w.heap.size)
    case atStart => exact ⟨0, Nat.zero_le _, H0, bupK (Below.refl _ _) _, fun i hi => absurd hi (Nat.not_lt_zero _)⟩
    case round =>
      obtain ⟨pos, hp, hit, hB, hU⟩ := hrel
      have HIP : Hid (wr.iterPos w.heap.size = pos) := by show _ = _; simp only [World.iterPos, hit]
      have HU := hidK hU
      have HBl := hidK hB
      clear hU H0
      by_cases hlt : pos < v.size
      · obtain ⟨b, hb⟩ : ∃ b, (byL v)[pos]? = some b := ⟨_, List.getElem?_eq_getElem (by rw [byL_size]; exact hlt)⟩
        obtain ⟨c, hc⟩ : ∃ c, (byL s)[pos]? = some c := ⟨_, List.getElem?_eq_getElem (by rw [byL_size, HZ.out]; exact hlt)⟩
        have hb8 : b.toNat < 128 := hv b (List.mem_of_getElem? hb)
        have hnx : ∀ ty, (Instr.next (.pointer (some ⟨w.heap.size, 0, none⟩)) true ty).run Tryd.prog wr = _ := fun ty => Lib.run_next_any_at wr w.heap.size v pos ty hit hlt
        rw [dec_lo v pos b hb hb8] at hnx
        have hix := idx19 s pos c hc
        have HI1 : Hid ((wr.iterAt w.heap.size v (pos + 1)).heap[w.heap.size]? = some (.stringIter v (pos + 1))) := Lib.iterAt_heap wr _ v pos (pos + 1) hit
        have HB1 : Hid (Below w.heap.size w (wr.iterAt w.heap.size v (pos + 1))) := Lib.below_iterAt hB (Nat.le_refl _) v (pos + 1)
        obtain ⟨W1, hW1⟩ : ∃ W1, W1 = wr.iterAt w.heap.size v (pos + 1) := ⟨_, rfl⟩
        simp only [← hW1] at hnx HI1 HB1
        have HC := hidK (capital_c c W1)
        have HQ := hidK hb
        have HR := hidK hc
        have cv : IntKind.u8.wrap (b.toNat : Int) = (b.toNat : Int) := by rw [IntKind.wrap_u8]; omega
        clear hW1 hit hb hc hB
        by_cases he : b = capB c
        · have hne : (((capB c).toNat : Int) != (b.toNat : Int)) = false := by rw [he]; simp
          have HE := hidK he
          clear he
          go_wp2_with (go_at_call 59; refine HC.out.mono ?_; rintro e w5 ⟨rfl, h5⟩; subst h5)
          go_roundw
          case rel =>
            refine ⟨pos + 1, by omega, HI1.out, HB1.out, fun i hi => ?_⟩
            by_cases e : i = pos
            · subst e; rw [List.getElem?_map, HQ.out, HR.out, HE.out]; rfl
            · exact HU.out i (by omega)
          case measure => rw [HIP.out]; have := HI1.out; simp only [World.iterPos, this]; omega
        · have hne : (((capB c).toNat : Int) != (b.toNat : Int)) = true := by
            simp only [bne_iff_ne, ne_eq, Int.ofNat_inj]
            exact fun e => he (UInt8.toNat_inj.1 e.symm)
          have HF : Hid (decide (byL v = (byL s).map capB) = false) := by
            refine decide_eq_false fun e => he ?_
            have h1 := HQ.out
            rw [e, List.getElem?_map, HR.out] at h1
            injection h1 with h1; exact h1.symm
          clear he
          go_wp2_with (go_at_call 59; refine HC.out.mono ?_; rintro e w5 ⟨rfl, h5⟩; subst h5)
          go_ret
          exact ⟨by rw [HF.out]; rfl, HB1.out⟩
      · obtain rfl : pos = v.size := by omega
        have hnx : ∀ ty, (Instr.next (.pointer (some ⟨w.heap.size, 0, none⟩)) true ty).run Tryd.prog wr = _ := fun ty => Lib.run_next_end_at wr w.heap.size v v.size ty hit hlt
        have HF : Hid (decide (byL v = (byL s).map capB) = true) := by
          refine decide_eq_true (List.ext_getElem? fun i => ?_)
          by_cases hi : i < v.size
          · exact HU.out i hi
          · rw [List.getElem?_eq_none (by rw [byL_size]; omega), List.getElem?_eq_none (by rw [List.length_map, byL_size, HZ.out]; omega)]
        clear hit
        go_wp2
        go_ret
        exact ⟨by rw [HF.out]; rfl, HBl.out⟩
  · have hz' : ((s.size : Int) != (v.size : Int)) = true := by simp; omega
    have HF : Hid (decide (byL v = (byL s).map capB) = false) := by
      refine decide_eq_false fun e => hz ?_
      have := congrArg List.length e
      rw [List.length_map, byL_size, byL_size] at this; exact this.symm
    clear hz
    go_enter Tryd.func53, Tryd.ntmps53
    go_wp2
    go_ret
    exact ⟨by rw [HF.out]; rfl, Below.refl _ _⟩
end Go.Proofs.YtdamhdceajmdfaaDoor
