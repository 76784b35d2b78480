
-- libraries.
import Derived.Test.YtebgannhecmnmaaLY
namespace Go.Proofs.Ytebgannhecmnmaa
open Go.ChangeShapes Go.WideShapes Go.ChangeAt Go.RowKit Go.MapKept
set_option linter.unusedVariables false
set_option maxRecDepth 100000
theorem elV : El lvL 5 37 22 120 := ⟨Try.underlying22, ⟨.agg #[.slice none 0 0, .slice none 0 0, .slice none 0 0, .slice none 0 0, .slice none 0 0], by kernel_rfl, rfl⟩, lvL_len, by decide⟩
/-- libraries' twins -/
structure LibsTw (B : Nat) (w : World) (v : Value) (lvs : List Lv) (Ls : List Lb) : Prop where
  row : OwnF (fun b => B ≤ b) lvL 5 37 w v lvs
  len : lvs.length = Ls.length
  ea : ∀ (i : Nat) (x : Lv) (L : Lb), lvs[i]? = some x → Ls[i]? = some L → LbTw B w x.e x.a x.n x.f x.g L
theorem LibsTw.on {B : Nat} {w w' : World} {v : Value} {lvs : List Lv} {Ls : List Lb} (h : LibsTw B w v lvs Ls) (hb : Below w.heap.size w w') : LibsTw B w' v lvs Ls := ⟨h.row.on hb, h.len, fun i x L hx hl => (h.ea i x L hx hl).on hb⟩
theorem LibsTw.libs {B : Nat} {w : World} {v : Value} {lvs : List Lv} {Ls : List Lb} {F : Nat → Prop} (h : LibsTw B w v lvs Ls) (hF : ∀ b, F b → w.heap.size ≤ b) : LibsAt F w v lvs Ls :=
  ⟨RowG.rowN (by decide) lvL_len (h.row.row elV) hF, h.len, fun i x L hx hl => (h.ea i x L hx hl).lib hF⟩
set_option maxHeartbeats 8000000 in
theorem libraries_c (v : Value) (lvs : List Lv) (Ls : List Lb) (w : World) (h : LibsAt (fun b => w.heap.size ≤ b) w v lvs Ls) (hn : Ls.length ≤ 1048576) (hL : ∀ L ∈ Ls, LbOk L) :
    Calls Try.prog 30 #[v] w fun e w' => ∃ a l c lus, e = .returned (.slice a l c) ∧ LibsTw w.heap.size w' (.slice a l c) lus Ls ∧ Below w.heap.size w w' := by
  obtain ⟨a1, c1, q1, _, _⟩ := h.row.row.form
  obtain ⟨n, hnn⟩ : ∃ n, n = lvs.length := ⟨_, rfl⟩
  have HN := hidK hnn
  have HL2 := hidK h.len
  rw [← hnn] at q1
  have hnm : n ≤ 1048576 := by rw [hnn, h.len]; exact hn
  subst q1
  have HV : Hid (∀ W, Below w.heap.size w W → LibsAt (fun b => W.heap.size ≤ b) W (.slice a1 n c1) lvs Ls) := fun W hb => (h.kp (Kp.of_below hb)).weak (fun b _ hh => Nat.le_trans hb.size hh)
  have HLB := hidK hL
  clear h hnn hn hL
  go_enter Try.func30, Try.ntmps30
  go_wp2
  go_loopw [3, 4] (fun o i wx => ∃ k : Nat, i = .int .i64 k ∧ k ≤ n ∧ (∃ lus, LibsTw w.heap.size wx o lus (Ls.take k)) ∧ Below w.heap.size w wx) (fun _ i _ => n - (intOf i).toNat)
  case atStart => exact ⟨0, rfl, Nat.zero_le _, ⟨[], OwnF.nil, rfl, fun i u l hu => by simp at hu⟩, Below.refl _ _⟩
  case round =>
    obtain ⟨k, rfl, hkn, ⟨lus, ho⟩, hB⟩ := hrel
    have HO := hidK ho
    have HB0 := hidK hB
    by_cases hk : k < n
    · have kI : (k : Int) < (n : Int) := by omega
      have k0 : (0 : Int) ≤ (k : Int) := by omega
      have kw : IntKind.i64.wrap ((k : Int) + 1) = (k : Int) + 1 := by rw [IntKind.wrap_i64]; omega
      obtain ⟨⟨x0, x1, x2, x3, x4⟩, hx⟩ : ∃ x, lvs[k]? = some x := ⟨_, List.getElem?_eq_getElem (by have := HN.out; omega)⟩
      obtain ⟨L, hl⟩ : ∃ x, Ls[k]? = some x := ⟨_, List.getElem?_eq_getElem (by have := HN.out; have := HL2.out; omega)⟩
      have hlibs := HV.out _ hB
      obtain ⟨b1, o1, p1, e1, d0, d1, d2, d3, d4⟩ := hlibs.row.row.lv hx
      simp only at d0 d1 d2 d3 d4
      have HY := hidK hl
      have HT := hidK (library_c _ _ _ _ _ L wr (hlibs.ea k _ L hx hl) (HLB.out L (List.mem_of_getElem? hl)))
      have HVK : Hid (lus.length = k) := by
        have := ho.len
        rw [List.length_take] at this
        have := HN.out; have := HL2.out
        show _ = _
        omega
      injection e1 with e1 e1b e1c
      subst e1
      clear hx hl e1b e1c hB ho hlibs
      go_upto_region 6 with (go_at_call 21; refine HT.out.mono ?_; rintro e w3 ⟨a0, l0, c0, a1', l1, c1', a2, l2, c2, a3, l3, c3, a4, l4, c4, rfl, q1, q2⟩; have HT3 := hidK q1; have HB3 := hidK q2; clear q1 q2)
      clear d0 d1 d2 d3 d4
      obtain ⟨W4, hW4⟩ : ∃ W4, W4 = w3.alloc (.cells #[.slice a0 l0 c0, .slice a1' l1 c1', .slice a2 l2 c2, .slice a3 l3 c3, .slice a4 l4 c4] 37) := ⟨_, rfl⟩
      have hb4 : Below w3.heap.size w3 W4 := by rw [hW4]; exact (Below.refl _ _).alloc (Nat.le_refl _) _
      have hg4 : W4.heap[w3.heap.size]? = some (.cells #[.slice a0 l0 c0, .slice a1' l1 c1', .slice a2 l2 c2, .slice a3 l3 c3, .slice a4 l4 c4] 37 (0, 0)) := by rw [hW4]; exact heap_alloc_new _ _
      obtain ⟨d0, d1, d2, d3, d4⟩ := lib_cells hg4
      rw [← hW4]
      have HB4 := hidK hb4
      have HBW4 : Hid (Below w.heap.size w W4) := by
        have h3 := HB0.out.trans (HB3.out.mono HB0.out.size)
        exact h3.trans (hb4.mono h3.size)
      have HO4 := hidK ((HO.out.row.on HB3.out).on hb4)
      clear hW4 hb4 hg4
      go_wp2_with (refine wpG_one elV rfl (.tmp 17) (.tmp 19) rfl _ lus (⟨.slice a0 l0 c0, .slice a1' l1 c1', .slice a2 l2 c2, .slice a3 l3 c3, .slice a4 l4 c4⟩ : Lv) #[.slice a0 l0 c0, .slice a1' l1 c1', .slice a2 l2 c2, .slice a3 l3 c3, .slice a4 l4 c4] rfl rfl rfl HO4.out (by intro u hu; simp [lvL] at hu; rcases hu with rfl | rfl | rfl | rfl | rfl <;> rfl) (by have := HVK.out; omega) (fun b hb => Nat.le_trans HBW4.out.size hb) ?_; intro v5 w5 o5 k5 l5; have HO5 := hidK o5; have HK5 := hidK k5; clear o5 k5 l5)
      go_roundw
      case rel =>
        have hkl : KeepL W4 w5 := fun b cs t hc ht => HK5.out.block b (Array.getElem?_eq_some_iff.1 hc).1 (fun e => by
          obtain ⟨cs', hc'⟩ := HO4.out.typed e
          exact cells_typ hc hc' ht rfl)
        refine ⟨k + 1, by go_num, by omega, ⟨_, HO5.out, by rw [List.length_append, HO.out.len, takeSucc HY.out, List.length_append]; rfl, fun i u l' hu hl' => ?_⟩, HBW4.out.trans (HK5.out.below (fun b hb => HO4.out.2 b hb) HBW4.out.size)⟩
        by_cases hik : i < k
        · rw [List.getElem?_append_left (by have := HVK.out; omega)] at hu
          rw [List.getElem?_take_of_lt (by omega)] at hl'
          refine (((HO.out.ea i u l' hu ?_).on HB3.out).on HB4.out).keepL hkl
          rw [List.getElem?_take_of_lt hik]
          exact hl'
        · have hie : i = k := by
            have h5 := (List.getElem?_eq_some_iff.1 hu).1
            have h6 := HVK.out
            rw [List.length_append, List.length_singleton] at h5
            omega
          subst hie
          rw [List.getElem?_append_right (by have := HVK.out; omega), HVK.out, Nat.sub_self] at hu
          simp at hu
          rw [List.getElem?_take_of_lt (by omega), HY.out] at hl'
          injection hl' with hl'
          subst hu hl'
          exact ((HT3.out.le HB0.out.size).on HB4.out).keepL hkl
      case measure => simp [intOf]; omega
    · obtain rfl : k = n := by omega
      have HE : Hid (LibsTw w.heap.size wr u3 lus Ls) := by
        have h0 := ho
        rw [List.take_of_length_le (by have := HN.out; have := HL2.out; omega)] at h0
        exact h0
      clear ho HO HV
      go_wp2
      go_ret
      obtain ⟨a, c, e, _⟩ := HE.out.row.form
      exact ⟨a, _, c, lus, by rw [← e]; rfl, by rw [← e]; exact HE.out, HB0.out⟩
end Go.Proofs.Ytebgannhecmnmaa
