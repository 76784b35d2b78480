
-- The document's picked.
import Derived.Test.YtbmdclgndlddbaaRC
import Derived.Deep.CutRange
namespace Go.Proofs.Ytbmdclgndlddbaa
open Go.ChangeShapes Go.WideShapes Go.ChangeAt Go.RowKit Go.Sort
set_option linter.unusedVariables false
set_option maxRecDepth 100000
set_option maxHeartbeats 16000000 in
theorem rpicked_c (v : Value) (L : List Rw) (o : Op7) (w : World) (h : RowG rwL w v L) (hn : L.length ≤ 1048576) :
    Calls Try.prog 19 #[v, opV o] w fun e w' => ∃ a l c, e = .returned (.slice a l c) ∧ OwR (fun b => w.heap.size ≤ b) w' (.slice a l c) (pickL o.g o.u L) ∧ Below w.heap.size w w' := by
  obtain ⟨a1, c1, q1, _, _⟩ := h.form
  obtain ⟨n, hnn⟩ : ∃ n, n = L.length := ⟨_, rfl⟩
  have HN := hidK hnn
  subst q1
  rw [← hnn] at hn ⊢ h
  obtain ⟨Y, hY⟩ : ∃ Y, Y = opO o := ⟨_, rfl⟩
  obtain ⟨w1, hw1⟩ : ∃ w1, w1 = w.alloc Y := ⟨_, rfl⟩
  have hb1 : Below w.heap.size w w1 := by rw [hw1]; exact (Below.refl _ _).alloc (Nat.le_refl _) _
  have y0 : w1.heap[w.heap.size]? = some (opO o) := by rw [hw1, heap_alloc_new, hY]
  have HV := hidK (h.on hb1)
  have HB1 := hidK hb1
  have HY := hidK y0
  unfold opO at hY
  unfold opV
  clear h hnn hb1 y0
  subst hY
  go_enter Try.func19, Try.ntmps19
  go_upto_region 1 with fail
  rw [← hw1]
  clear hw1
  go_wp2
  go_loopw [5, 6] (fun v i wx => ∃ (k : Nat) (a : Option Addr) (l c : Nat), i = .int .i64 k ∧ k ≤ n ∧ v = .slice a l c ∧ OwR (fun b => w1.heap.size ≤ b) wx (.slice a l c) (pickL o.g o.u (L.take k)) ∧ Below w1.heap.size w1 wx) (fun _ i _ => n - (intOf i).toNat)
  case atStart => exact ⟨0, none, 0, 0, rfl, Nat.zero_le _, rfl, OwnF.nil, Below.refl _ _⟩
  case round =>
    obtain ⟨k, ao, lo, co, rfl, hkn, rfl, ho, hB⟩ := hrel
    have HO := hidK ho
    have HB0 := hidK hB
    by_cases hk : k < n
    · have kI : (k : Int) < (n : Int) := by omega
      have k0 : (0 : Int) ≤ (k : Int) := by omega
      have kw : IntKind.i64.wrap ((k : Int) + 1) = (k : Int) + 1 := by rw [IntKind.wrap_i64]; omega
      obtain ⟨x, hx⟩ : ∃ x, L[k]? = some x := ⟨_, List.getElem?_eq_getElem (by have := HN.out; omega)⟩
      obtain ⟨b1, o1, p1, e1, d0, d1, d2, d3, d4, d5, d6, d7⟩ := (HV.out.on hB).rw hx
      have HX := hidK hx
      injection e1 with e1 e1b e1c
      subst e1
      obtain ⟨X, hX⟩ : ∃ X, X = rwO x := ⟨_, rfl⟩
      obtain ⟨wA, hwA⟩ : ∃ wA, wA = wr.alloc X := ⟨_, rfl⟩
      have hbA : Below wr.heap.size wr wA := by rw [hwA]; exact (Below.refl _ _).alloc (Nat.le_refl _) _
      have x0 : wA.heap[wr.heap.size]? = some (rwO x) := by rw [hwA, heap_alloc_new, hX]
      obtain ⟨x1, x2, x3, x4, x5, x6, x7, x8⟩ := rw_cells x0
      obtain ⟨y1, y2, y3, y4, y5, y6, y7⟩ := op_cells (hkeepK (hB.trans (hbA.mono hB.size)) HY.out)
      have HX0 := hidK x0
      have HBA : Hid (Below w1.heap.size w1 wA) := hB.trans (hbA.mono hB.size)
      have HOA : Hid (∀ W, Gr wA W → OwR (fun b => w1.heap.size ≤ b) W (.slice ao lo co) (pickL o.g o.u (L.take k))) := fun W hg => (ho.on hbA).on hg.below
      have HPT : Hid (pickL o.g o.u (L.take (k + 1)) = if leftO o.g o.u x = true then pickL o.g o.u (L.take k) else pickL o.g o.u (L.take k) ++ [x]) := pick_take hx
      have HPL : Hid ((pickL o.g o.u (L.take k)).length ≤ 1048576) := by show _ ≤ _; have h1 := pick_len o.g o.u (L.take k); have h2 := List.length_take_le k L; omega
      unfold rwO at hX
      clear hx e1b e1c x0 ho hB hbA
      subst hX
      go_upto_region 6 with fail
      rw [← hwA]
      clear hwA d0 d1 d2 d3 d4 d5 d6 d7
      go_cut [39] from 8 to 43 (fun s wx => s = .bool (leftO o.g o.u x) ∧ wx = wA)
      case first =>
        obtain ⟨g, hg⟩ : ∃ g, g = o.g := ⟨_, rfl⟩
        obtain ⟨u, hu⟩ : ∃ g, g = o.u := ⟨_, rfl⟩
        obtain ⟨bd, hb⟩ : ∃ g, g = x.bd := ⟨_, rfl⟩
        obtain ⟨lt, hl⟩ : ∃ g, g = x.lt := ⟨_, rfl⟩
        rw [← hg] at y1
        rw [← hu] at y2
        rw [← hb] at x2
        rw [← hl] at x8
        have HV4 : Hid (g = o.g ∧ u = o.u ∧ bd = x.bd ∧ lt = x.lt) := ⟨hg, hu, hb, hl⟩
        clear hg hu hb hl x1 x3 x4 x5 x6 x7 y3 y4 y5 y6 y7
        by_cases h1 : lt = 85
        · have e1 : (lt != 85) = false := by simp [h1]
          cases g <;> cases u <;> by_cases h3 : bd = 0 <;>
          · go_wp2
            go_meet
            case rel =>
              refine ⟨?_, rfl⟩
              simp [leftO, ← HV4.out.1, ← HV4.out.2.1, ← HV4.out.2.2.1, ← HV4.out.2.2.2, h1, h3]
        · have e1 : (lt != 85) = true := by simp [h1]
          by_cases h2 : lt = 119
          · have e2 : (lt != 119) = false := by simp [h2]
            cases g <;> cases u <;> by_cases h3 : bd = 0 <;>
            · go_wp2
              go_meet
              case rel =>
                refine ⟨?_, rfl⟩
                simp [leftO, ← HV4.out.1, ← HV4.out.2.1, ← HV4.out.2.2.1, ← HV4.out.2.2.2, h2, h3]
          · have e2 : (lt != 119) = true := by simp [h2]
            cases g <;> cases u <;> by_cases h3 : bd = 0 <;>
            · go_wp2
              go_meet
              case rel =>
                refine ⟨?_, rfl⟩
                simp [leftO, ← HV4.out.1, ← HV4.out.2.1, ← HV4.out.2.2.1, ← HV4.out.2.2.2, h1, h2, h3]
      case rest =>
        obtain ⟨rfl, rfl⟩ := hcut
        have HO2 : Hid (OwR (fun b => w1.heap.size ≤ b) wc (.slice ao lo co) (pickL o.g o.u (L.take k))) := HOA.out _ (Gr.refl _)
        have HB2 := hidK HBA.out
        cases hl : leftO o.g o.u x with
        | true =>
          have HL := hidK hl
          clear hl
          go_wp2
          go_roundw
          case rel => exact ⟨k + 1, _, _, _, by go_num, by omega, rfl, by rw [HPT.out, if_pos HL.out]; exact HO2.out, HB2.out⟩
          case measure => simp [intOf]; omega
        | false =>
          have HL := hidK hl
          clear hl
          go_wp2_with (refine wpG_one (F := fun b => w1.heap.size ≤ b) elR rfl (.tmp 40) (.tmp 42) rfl (.slice ao lo co) _ x #[.string x.nm, .int .i64 x.bd, .int .i64 x.ty, .int .i64 x.ot, .int .i64 x.sc, .int .u64 x.va, .int .u64 x.sz, .int .u8 x.lt] rfl rfl rfl HO2.out (rwL_one _) (by have := HPL.out; omega) (fun b hb => Nat.le_trans HB2.out.size hb) ?_; intro v4 w4 o4 k4 l4; have HO4 := hidK o4; have HK4 := hidK k4; obtain ⟨a4, p4, e4, _⟩ := o4.form; obtain ⟨m4, hm4⟩ : ∃ m, m = (pickL o.g o.u (L.take k) ++ [x]).length := ⟨_, rfl⟩; rw [← hm4] at e4; clear hm4 o4 k4 l4; subst e4)
          go_roundw
          case rel => exact ⟨k + 1, _, _, _, by go_num, by omega, rfl, by rw [HPT.out, if_neg (by rw [HL.out]; decide)]; exact HO4.out, HB2.out.trans (HK4.out.below (fun b hb => HO2.out.2 b hb) HB2.out.size)⟩
          case measure => simp [intOf]; omega
    · obtain rfl : k = n := by omega
      have HE : Hid (OwR (fun b => w1.heap.size ≤ b) wr (.slice ao lo co) (pickL o.g o.u L)) := by
        have := HO.out
        rw [HN.out, List.take_length] at this
        exact this
      clear ho hB HV
      go_wp2
      go_ret
      exact ⟨_, _, _, rfl, HE.out.weak (fun b hb => Nat.le_trans HB1.out.size hb), HB1.out.trans (HB0.out.mono HB1.out.size)⟩
end Go.Proofs.Ytbmdclgndlddbaa
