
-- The statements' has, without: lists of files.
import Derived.Test.YtbbblncoicjacaaGreatDoorFC
namespace Go.Proofs.YtbbblncoicjacaaGreatDoor
open Go.ChangeShapes Go.WideShapes Go.ChangeAt Go.RowKit
set_option linter.unusedVariables false
set_option maxRecDepth 100000
set_option linter.unusedSimpArgs false
theorem infoFil : (Tryz.prog.info? 26).map (fun i => (i.zero, i.size, i.bytes)) = some (some (.agg #[.string ⟨#[]⟩, .int .i64 0, .int .i64 0, .int .i64 0, .int .i64 0, .string ⟨#[]⟩]), 6, 64) := by kernel_rfl
theorem ownF_nil (B : Nat) (w : World) : OwnF B w (.slice none 0 0) [] := ⟨rfl, .inl ⟨rfl, rfl⟩⟩
theorem pushF {B n : Nat} {w : World} {v : Value} {L M : List Fil} (hn : n = L.length + M.length) (h : w.ownsRow B 26 6 v n (L.flatMap filL ++ M.flatMap filL)) : OwnF B w v (L ++ M) := by
  unfold OwnF
  rw [List.length_append, List.flatMap_append, ← hn]
  exact h
theorem info_parts16 {P : Program} {t : TypeId} {z : Value} {s b : Nat} (h : (P.info? t).map (fun i => (i.zero, i.size, i.bytes)) = some (some z, s, b)) : ∃ i, P.info? t = some i ∧ i.zero = some z ∧ i.size = s ∧ i.bytes = b := by
  cases hi : P.info? t with
  | none => rw [hi] at h; simp at h
  | some i =>
    rw [hi] at h
    simp at h
    exact ⟨i, rfl, h.1, h.2.1, h.2.2⟩
/-- A file more at the end of a row of one's own. -/
theorem wpF_one {ops : Array Oper} {rest : List Oper} {o : Oper} {a : Act} {W : World} {Q : Exit → Act → World → Prop} (hgd : o.guard = none) (x y : Operand) (ho : o.op = .call { callee := .builtin .append, args := #[x, y], argTypes := #[22, 22] })
    (A : World) (B : Nat) (v : Value) (L : List Fil) (n : ByteArray) (m0 m1 m2 m3 : Int) (d : ByteArray) (hx : a.eval x = v) (hy : a.eval y = .slice (some ⟨W.heap.size, 0, none⟩) 1 1) (hO : OwnF B W v L) (hl : L.length ≤ 67108864) (hA : B ≤ A.heap.size) (hB : Below B A W)
    (h : ∀ v' w', OwnF B w' v' (L ++ [(n, (m0, m1, m2, m3), d)]) → Below B A w' → wpList Tryz.prog ops Q rest (a.put o.dst v') w') : wpList Tryz.prog ops Q (o :: rest) a (W.alloc (.cells #[.string n, .int .i64 m0, .int .i64 m1, .int .i64 m2, .int .i64 m3, .string d] 26)) := by
  obtain ⟨i0, hi, hz0, hz1, hz2⟩ := info_parts16 infoFil
  have hBW : B ≤ W.heap.size := Nat.le_trans hA hB.size
  have hO2 : (W.alloc (.cells #[.string n, .int .i64 m0, .int .i64 m1, .int .i64 m2, .int .i64 m3, .string d] 26)).ownsRow B 26 6 v L.length (L.flatMap filL) := own_upK hO _
  refine wpList_append_own _ hgd x y 22 ho B 26 i0 _ 6 64 Tryz.underlying22 hi hz0 hz1 hz2 rfl (by decide) v L.length (L.flatMap filL) hx hO2 ⟨W.heap.size, 0, none⟩ 1 1 [.string n, .int .i64 m0, .int .i64 m1, .int .i64 m2, .int .i64 m3, .string d] hy rfl (new_rowK W #[.string n, .int .i64 m0, .int .i64 m1, .int .i64 m2, .int .i64 m3, .string d] 26 [.string n, .int .i64 m0, .int .i64 m1, .int .i64 m2, .int .i64 m3, .string d] rfl) (filL_one (n, (m0, m1, m2, m3), d)) (by unfold maxLen; omega) (by omega) (by rw [World.size_alloc]; omega) ?_
  intro v' w' o1 g1 _
  refine h v' w' ?_ ?_
  · exact pushF (M := [(n, (m0, m1, m2, m3), d)]) rfl o1
  · exact below_grow (hB.alloc hBW _) g1 hO2 hA
theorem others_take (L : List Fil) (n : ByteArray) (k : Nat) (x : Fil) (h : L[k]? = some x) : othersF (L.take (k + 1)) n = othersF (L.take k) n ++ (if x.1 = n then [] else [x]) := by
  unfold othersF
  rw [List.take_add_one, h, List.filter_append]
  by_cases hx : x.1 = n <;> simp [hx]
theorem that_take (L : List Fil) (n : ByteArray) (k : Nat) (x : Fil) (h : L[k]? = some x) : thatF (L.take (k + 1)) n = thatF (L.take k) n ++ (if x.1 = n then [x] else []) := by
  unfold thatF
  rw [List.take_add_one, h, List.filter_append]
  by_cases hx : x.1 = n <;> simp [hx]
set_option maxHeartbeats 4000000 in
theorem withoutF_c (v1 : Value) (L : List Fil) (nm : ByteArray) (w : World) (h1 : RowF w v1 L) (hn : L.length ≤ 67108864) :
    Calls Tryz.prog 15 #[v1, .string nm] w fun e w' => ∃ v', e = .returned v' ∧ OwnF w.heap.size w' v' (othersF L nm) ∧ Below w.heap.size w w' := by
  obtain ⟨a1, c1, q1, _, _⟩ := h1.form
  obtain ⟨n, hnn⟩ : ∃ n, n = L.length := ⟨_, rfl⟩
  have HN := hidK hnn
  have HQ1 := hidK h1
  subst q1
  rw [← hnn] at hn HQ1 ⊢
  clear h1 hnn
  go_enter Tryz.func15, Tryz.ntmps15
  go_wp2
  go_loopw [5, 6] (fun o i wx => ∃ k : Nat, i = .int .i64 k ∧ k ≤ n ∧ OwnF w.heap.size wx o (othersF (L.take k) nm) ∧ Below w.heap.size w wx) (fun _ i _ => n - (intOf i).toNat)
  case atStart => exact ⟨0, rfl, Nat.zero_le _, ownF_nil _ _, Below.refl _ _⟩
  case round =>
    obtain ⟨k, rfl, hkn, hO, hB⟩ := hrel
    by_cases hk : k < n
    · have kI : (k : Int) < (n : Int) := by omega
      have k0 : (0 : Int) ≤ (k : Int) := by omega
      have hkl : k < L.length := by have := HN.out; omega
      obtain ⟨⟨nn, ⟨m0, m1, m2, m3⟩, dt⟩, hx⟩ : ∃ x, L[k]? = some x := ⟨_, List.getElem?_eq_getElem hkl⟩
      have HOT := hidK (others_take L nm k _ hx)
      have hll : (othersF (L.take k) nm).length ≤ 67108864 := by
        have h1 : (othersF (L.take k) nm).length ≤ (L.take k).length := List.length_filter_le _ _
        have h2 : (L.take k).length ≤ k := by rw [List.length_take]; omega
        omega
      obtain ⟨b1, o1, p1, e1, d0, d1, d2, d3, d4, d5⟩ := (HQ1.out.on hB).fil hx
      injection e1 with e1 e1b e1c
      subst e1
      obtain ⟨M, hM⟩ : ∃ M, M = othersF (L.take k) nm := ⟨_, rfl⟩
      rw [← hM] at hO hll HOT
      clear hx HQ1 hkl e1b e1c hM
      by_cases hne : nn = nm
      · have HH : Hid (othersF (L.take (k + 1)) nm = M) := by
          have := HOT.out; rw [if_pos hne, List.append_nil] at this; exact this
        have bq : (nn.toList == nm.toList) = true := by rw [beq_toList]; exact decide_eq_true hne
        clear hne HOT
        go_wp2
        refine ⟨⟨k + 1, by go_num, by omega, ?_, hB⟩, by simp [intOf]; omega⟩
        rw [HH.out]; exact hO
      · have HH : Hid (othersF (L.take (k + 1)) nm = M ++ [(nn, (m0, m1, m2, m3), dt)]) := by
          have := HOT.out; rw [if_neg hne] at this; exact this
        have bq : (nn.toList == nm.toList) = false := by rw [beq_toList]; exact decide_eq_false hne
        have bq2 : ¬ nn.toList = nm.toList := fun e => hne ((tl_iff _ _).1 e)
        have HO := hidK hO
        have HBB := hidK hB
        clear hne HOT hO hB
        go_wp2_with (refine wpF_one rfl (.tmp 20) (.tmp 25) rfl w w.heap.size _ M nn m0 m1 m2 m3 dt rfl rfl HO.out hll (Nat.le_refl _) HBB.out ?_; intro v' w' hO' hB')
        refine ⟨⟨k + 1, by go_num, by omega, ?_, hB'⟩, by simp [intOf]; omega⟩
        rw [HH.out]; exact hO'
    · obtain rfl : k = n := by omega
      have hall : L.take k = L := by rw [HN.out]; exact List.take_length
      rw [hall] at hO
      clear HQ1
      go_wp2
      go_ret
      exact ⟨_, rfl, hO, hB⟩
end Go.Proofs.YtbbblncoicjacaaGreatDoor
