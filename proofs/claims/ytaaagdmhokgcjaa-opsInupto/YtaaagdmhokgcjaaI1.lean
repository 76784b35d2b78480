
-- (*insertion).add: a contract.
import Derived.Test.YtaaagdmhokgcjaaS2
import Derived.Test.YtaaagdmhokgcjaaI0
import Derived.RangeFuncBox
import Derived.Deep.RegionLaw
namespace Go.Proofs.Ytaaagdmhokgcjaa
open Go.ChangeShapes Go.WideShapes Go.ChangeAt Go.RowKit
set_option linter.unusedVariables false
set_option maxRecDepth 100000
set_option linter.unusedSimpArgs false
theorem step_append_own {P : Program} {ops : Array Oper} {o : Oper} {a : Act} {w : World} {K : Act → World → Prop} {Q : Exit → Act → World → Prop} {E : Prop}
    (hg : o.guard = none) (s x : Operand) (t : TypeId) (hop : o.op = Op.call { callee := Callee.builtin Builtin.append, args := #[s, x], argTypes := #[t, t] })
    (base : Nat) (e : TypeId) (i : TypeInfo) (z : Value) (size bytes : Nat) (h1 : P.underlying t = some (.slice e)) (h2 : P.info? e = some i) (h3 : i.zero = some z) (h4 : i.size = size) (h5 : i.bytes = bytes) (h6 : z.cells.size = size) (h7 : 0 < size)
    (v : Value) (k : Nat) (xs : List Value) (hs : a.eval s = v) (hown : w.ownsRow base e size v k xs) (ad : Addr) (m c : Nat) (news : List Value) (hx : a.eval x = .slice (some ad) m c) (hn : news.length = m * size)
    (hc : ∀ j u, news[j]? = some u → w.cell? (ad.add j) = some u) (h1c : ∀ u ∈ news, u.oneCell' = true) (b1 : k + m ≤ maxLen) (b2 : (k + m) * bytes ≤ 140737488355328) (b3 : base ≤ w.heap.size)
    (hK : ∀ v' w', w'.ownsRow base e size v' (k + m) (xs ++ news) → w.grownBy w' v.ownBlock → K (a.put o.dst v') w') :
    if Region.wanted o (yielded ops a.tmps) = true then Oper.wp P o a w K Q else E := by
  rw [if_pos (by simp [Region.wanted, hg])]
  obtain ⟨v', w', hrun, r1, r2, _⟩ := run_append_own (P := P) w base t o.type e i z size bytes h1 h2 h3 h4 h5 h6 h7 v k xs hown ad m c news hn hc h1c b1 b2 b3
  unfold Oper.wp
  simp [execOp, hop, resolve, invoke, builtin, hs, hx, hrun, Result.andThen]
  exact hK v' w' r1 r2
theorem own_set {n₀ B i : Nat} {W : World} {e t : TypeId} {size k : Nat} {v : Value} {xs : List Value} {cs : Array Value} {fr : Nat × Nat} (h : W.ownsRow n₀ e size v k xs) (hB : W.heap[B]? = some (.cells cs t fr)) (hte : t ≠ e) (u : Value) : (W.setCell ⟨B, i, none⟩ u).ownsRow n₀ e size v k xs := by
  refine ⟨h.1, ?_⟩
  rcases h.2 with q | ⟨g, cap, cur, q1, q2, q3, q4⟩
  · exact .inl q
  · refine .inr ⟨g, cap, cur, q1, q2, (Below.heap_setCell W _ _ g ?_).trans q3, q4⟩
    intro eq
    have e' : g = B := eq
    subst e'
    rw [q3] at hB
    injection hB with hB
    injection hB with _ hB _
    exact hte hB.symm
theorem row_grown {n₀ B : Nat} {W W' : World} {e t : TypeId} {size k : Nat} {v : Value} {xs : List Value} {cs : Array Value} (hB : W.heap[B]? = some (.cells cs t (0, 0))) (h : W.ownsRow n₀ e size v k xs) (hte : t ≠ e) (hg : W.grownBy W' v.ownBlock) : W'.heap[B]? = some (.cells cs t (0, 0)) := by
  refine (hg.block B (Array.getElem?_eq_some_iff.1 hB).1 ?_).trans hB
  intro eq
  rcases h.2 with ⟨rfl, _⟩ | ⟨g, cap, cur, rfl, _, hgb, _⟩
  · simp [Value.ownBlock] at eq
  · have e' : B = g := by simpa [Value.ownBlock] using eq
    subst e'
    rw [hB] at hgb
    injection hgb with hgb
    injection hgb with _ hgb _
    exact hte hgb
theorem set_row13 {w : World} {k i : Nat} {cs : Array Value} {t : TypeId} (v : Value) (h : w.heap[k]? = some (.cells cs t (0, 0))) : (w.setCell ⟨k, i, none⟩ v).heap[k]? = some (.cells (cs.setIfInBounds i v) t (0, 0)) := heap_setCell_same _ k i _ _ v h
theorem froz_row13 {w : World} {k : Nat} {cs : Array Value} {t : TypeId} (h : w.heap[k]? = some (.cells cs t (0, 0))) (i : Nat) : w.frozen? ⟨k, i, none⟩ = false := by
  simp [World.frozen?, h]
/-- nothing turns but the box ib, the map gm, rows of members from B on, and new blocks -/
structure Kx (B ib gm : Nat) (w w' : World) : Prop where
  os : w'.os = w.os
  tape : w'.tape = w.tape
  output : w'.output = w.output
  size : w.heap.size ≤ w'.heap.size
  block : ∀ g, g < w.heap.size → g ≠ ib → g ≠ gm → (g < B ∨ ∃ cs t fr, w.heap[g]? = some (.cells cs t fr) ∧ t ≠ 32) → w'.heap[g]? = w.heap[g]?
section
variable {B ib gm : Nat} {a b c : World}
theorem Kx.of (h : Below a.heap.size a b) : Kx B ib gm a b := ⟨h.os, h.tape, h.output, h.size, fun g hg _ _ _ => h.block g hg⟩
theorem Kx.trans (h : Kx B ib gm a b) (k : Kx B ib gm b c) : Kx B ib gm a c :=
  ⟨k.os.trans h.os, k.tape.trans h.tape, k.output.trans h.output, Nat.le_trans h.size k.size, fun g hg h1 h2 h3 => by
    have e := h.block g hg h1 h2 h3
    refine (k.block g (Nat.lt_of_lt_of_le hg h.size) h1 h2 ?_).trans e
    rcases h3 with h3 | ⟨cs, t, fr, h3, h4⟩
    · exact .inl h3
    · exact .inr ⟨cs, t, fr, e.trans h3, h4⟩⟩
theorem Kx.turned (h : Turned a b gm) : Kx B ib gm a b := ⟨h.os.1, h.os.2.1, h.os.2.2, Nat.le_of_eq h.size.symm, fun g _ _ h2 _ => h.other h2⟩
theorem Kx.box (h : a.grownBy b (some ib)) : Kx B ib gm a b := ⟨h.os, h.tape, h.output, h.size, fun g hg h1 _ _ => h.block g hg (fun e => h1 (by injection e))⟩
theorem Kx.row {n : Nat} {v : Value} {xs : List Value} (ho : a.ownsRow B 32 7 v n xs) (h : a.grownBy b v.ownBlock) : Kx B ib gm a b :=
  ⟨h.os, h.tape, h.output, h.size, fun g hg _ _ h3 => h.block g hg (fun e => by
    rcases ho.2 with ⟨rfl, _⟩ | ⟨g', cap, cur, rfl, q2, q3, _⟩
    · cases e
    · have e' : g = g' := by simpa [Value.ownBlock] using e
      subst e'
      rcases h3 with h3 | ⟨cs, t, fr, h3, h4⟩
      · omega
      · rw [q3] at h3; injection h3 with h3; injection h3 with _ h3 _; exact h4 h3.symm)⟩
theorem Kx.below {B0 : Nat} (h : Kx B ib gm a b) (h1 : B0 ≤ B) (h2 : B0 ≤ ib) (h3 : B0 ≤ gm) (h4 : B0 ≤ a.heap.size) : Below B0 a b :=
  ⟨h.os, h.tape, h.output, h.size, fun j hj => h.block j (by omega) (by omega) (by omega) (.inl (by omega))⟩
end
/-- nothing turns but the box ib, the map gm, the row r, and new blocks -/
structure Ky (r : Option Nat) (ib gm : Nat) (w w' : World) : Prop where
  size : w.heap.size ≤ w'.heap.size
  block : ∀ g, g < w.heap.size → g ≠ ib → g ≠ gm → r ≠ some g → w'.heap[g]? = w.heap[g]?
section
variable {r : Option Nat} {ib gm : Nat} {a b c : World}
theorem Ky.of (h : Below a.heap.size a b) : Ky r ib gm a b := ⟨h.size, fun g hg _ _ _ => h.block g hg⟩
theorem Ky.trans (h : Ky r ib gm a b) (k : Ky r ib gm b c) : Ky r ib gm a c := ⟨Nat.le_trans h.size k.size, fun g hg h1 h2 h3 => (k.block g (Nat.lt_of_lt_of_le hg h.size) h1 h2 h3).trans (h.block g hg h1 h2 h3)⟩
theorem Ky.turned (h : Turned a b gm) : Ky r ib gm a b := ⟨Nat.le_of_eq h.size.symm, fun g _ _ h2 _ => h.other h2⟩
theorem Ky.box (h : a.grownBy b (some ib)) : Ky r ib gm a b := ⟨h.size, fun g hg h1 _ _ => h.block g hg (fun e => h1 (by injection e))⟩
theorem Ky.row (h : a.grownBy b r) : Ky r ib gm a b := ⟨h.size, fun g hg _ _ h3 => h.block g hg (fun e => h3 e.symm)⟩
end
/-- a box is written -/
theorem grown_set {w : World} {k i : Nat} {v : Value} : w.grownBy (w.setCell ⟨k, i, none⟩ v) (some k) := by
  have hb : Below 0 w (w.setCell ⟨k, i, none⟩ v) := Below.setCell (Below.refl _ _) (Nat.zero_le _) _
  exact ⟨hb.os, hb.tape, hb.output, hb.size, fun j _ h1 => Below.heap_setCell w _ _ j (fun e => h1 (by rw [e]))⟩
def sets : Array Value → Nat → List Value → Array Value
  | cur, _, [] => cur
  | cur, o, v :: r => sets (cur.setIfInBounds o v) (o + 1) r
theorem sets_eq : ∀ (vs : List Value) (cur : Array Value) (o : Nat), o + vs.length ≤ cur.size → sets cur o vs = putG cur o vs.toArray
  | [], cur, o, _ => by unfold sets putG; simp
  | v :: r, cur, o, h => by
    rw [sets, sets_eq r _ (o + 1) (by rw [Array.size_setIfInBounds]; simp at h; omega)]
    unfold putG
    congr 1
    simp only [Array.toList_setIfInBounds, List.toList_toArray, List.size_toArray, List.length_cons]
    have h1 : (cur.toList.set o v).take (o + 1) = cur.toList.take o ++ [v] := setTake (by rw [Array.length_toList]; simp at h; omega)
    rw [h1, List.drop_set_of_lt (by omega), show o + 1 + r.length = o + (r.length + 1) by omega]
    simp
/-- seven cells of a row are written one by one -/
theorem seven {W : World} {g o : Nat} {cur : Array Value} {t : TypeId} (v0 v1 v2 v3 v4 v5 v6 : Value) (h : W.heap[g]? = some (.cells cur t (0, 0))) (hs : o + 7 ≤ cur.size) :
    (((((((W.setCell ⟨g, o, none⟩ v0).setCell ⟨g, o + 1, none⟩ v1).setCell ⟨g, o + 2, none⟩ v2).setCell ⟨g, o + 3, none⟩ v3).setCell ⟨g, o + 4, none⟩ v4).setCell ⟨g, o + 5, none⟩ v5).setCell ⟨g, o + 6, none⟩ v6).heap[g]? = some (.cells (putG cur o #[v0, v1, v2, v3, v4, v5, v6]) t (0, 0)) := by
  have e := sets_eq [v0, v1, v2, v3, v4, v5, v6] cur o hs
  have h2 := set_row13 (i := o + 6) v6 (set_row13 (i := o + 5) v5 (set_row13 (i := o + 4) v4 (set_row13 (i := o + 3) v3 (set_row13 (i := o + 2) v2 (set_row13 (i := o + 1) v1 (set_row13 (i := o) v0 h))))))
  rw [h2, ← e]; rfl
theorem grown_tr {a b c : World} {r : Option Nat} (h : a.grownBy b r) (k : b.grownBy c r) : a.grownBy c r := grownG_trans h k
theorem map_grown {a b : World} {gm B n : Nat} {f : ByteArray → Option Int} {v : Value} {xs : List Value} (h : MapF a gm f) (ho : a.ownsRow B 32 7 v n xs) (hg : a.grownBy b v.ownBlock) : MapF b gm f := by
  refine h.keep (hg.block gm h.lt (fun e => ?_))
  rcases ho.2 with ⟨rfl, _⟩ | ⟨g', cap, cur, rfl, q2, q3, _⟩
  · cases e
  · have e' : gm = g' := by simpa [Value.ownBlock] using e
    subst e'
    exact absurd rfl (h.ne_cells q3)
theorem MapF.same {w : World} {b : Nat} {f g : ByteArray → Option Int} (h : MapF w b f) (e : f = g) : MapF w b g := by rw [← e]; exact h
/-- what stands of the insertion in memory -/
def InsAt (B ib gm : Nat) (w : World) (ms : List Mx) : Prop := ∃ mv, w.heap[ib]? = some (.cells #[mv, .map (some gm)] 68 (0, 0)) ∧ OwnM B w mv ms ∧ MapF w gm (mapN ms) ∧ B ≤ w.heap.size
set_option maxHeartbeats 8000000 in
theorem add_new (B ib gm : Nat) (ms : List Mx) (dd uu gg mm zz : Int) (nn dt : ByteArray) (u : Bool) (w : World) (h : InsAt B ib gm w ms) (hl : ms.length ≤ 33554432) (hno : nthO (nms ms) nn 0 = none) :
    Calls Try.prog 32 #[.pointer (some ⟨ib, 0, none⟩), .agg #[.int .i64 dd, .int .i64 uu, .int .i64 gg, .int .i64 mm, .string nn, .int .i64 zz, .string dt], .bool u] w fun e w' => e = .returned (.int .u8 97) ∧ InsAt B ib gm w' (ms ++ [⟨dd, uu, gg, mm, nn, zz, dt⟩]) ∧ Kx B ib gm w w' ∧ (∀ mv', w.heap[ib]? = some (.cells #[mv', .map (some gm)] 68 (0, 0)) → Ky mv'.ownBlock ib gm w w') := by
  obtain ⟨mv, hi0, ho, hM, hB⟩ := h
  obtain ⟨i0, hi, hz0, hz1, hz2⟩ := info_parts infoMx
  have hne : mapN ms nn = none := by unfold mapN; rw [hno]; rfl
  have hz3 := Try.zeroValue3
  obtain ⟨n, hnn⟩ : ∃ n, ms.length = n := ⟨_, rfl⟩
  have hnb : n ≤ 33554432 := by rw [← hnn]; exact hl
  have hom := ownM_form hnn ho
  obtain ⟨ao, cap, q4, hnc, hcm, hnone, hsome⟩ := ownG_form 7 hom
  have hlt : ib < w.heap.size := (Array.getElem?_eq_some_iff.1 hi0).1
  have hgl := hM.lt
  obtain ⟨W1, hW1⟩ : ∃ W1, W1 = w.alloc (.cells #[.int .i64 dd, .int .i64 uu, .int .i64 gg, .int .i64 mm, .string nn, .int .i64 zz, .string dt] 32) := ⟨_, rfl⟩
  have hb1 : Below w.heap.size w W1 := by rw [hW1]; exact bupK (Below.refl _ _) _
  have hi1 : W1.heap[ib]? = some (.cells #[mv, .map (some gm)] 68 (0, 0)) := by rw [hW1]; exact hupK hi0 _
  have hX1 : W1.heap[w.heap.size]? = some (.cells #[.int .i64 dd, .int .i64 uu, .int .i64 gg, .int .i64 mm, .string nn, .int .i64 zz, .string dt] 32 (0, 0)) := by rw [hW1]; exact heap_alloc_new w _
  have hM1 : MapF W1.drew gm (mapN ms) := (hM.on hb1).keep rfl
  have hM2 : MapF W1.drew.drew gm (mapN ms) := hM1.keep rfl
  have hlk := hM1.look_no (P := Try.prog) (t := 57) Try.underlying57 Try.underlying9 (hz3 _) hne
  obtain ⟨W3, hrun, hM3, hT3⟩ := hM2.store (P := Try.prog) (t := 57) Try.underlying57 Try.underlying9 nn (n : Int)
  have hib : ib ≠ gm := fun e => by subst e; exact absurd rfl (hM.ne_cells hi0)
  have hxb : w.heap.size ≠ gm := by omega
  have hi3 : W3.heap[ib]? = some (.cells #[mv, .map (some gm)] 68 (0, 0)) := (hT3.other hib).trans hi1
  have hX3 : W3.heap[w.heap.size]? = some (.cells #[.int .i64 dd, .int .i64 uu, .int .i64 gg, .int .i64 mm, .string nn, .int .i64 zz, .string dt] 32 (0, 0)) := (hT3.other hxb).trans hX1
  have ho1 : W1.ownsRow B 32 7 mv n (ms.flatMap mxL) := ownG_on hom hb1
  have ho3 : W3.drew.ownsRow B 32 7 mv n (ms.flatMap mxL) := by
    have h2 : W1.drew.drew.ownsRow B 32 7 mv n (ms.flatMap mxL) := ho1
    refine ownG_kept h2 (fun g hg => ?_)
    refine hT3.other (fun e => ?_)
    subst e
    rcases ho1.2 with ⟨rfl, _⟩ | ⟨g', cap', cur', rfl, _, q3, _⟩
    · cases hg
    · have e' : g' = g := by simpa [Value.ownBlock] using hg
      subst e'
      exact absurd rfl (hM1.ne_cells q3)
  have hk3 : Kx B ib gm w W3 := ((Kx.of (hb1.drew.drew)).trans (Kx.turned hT3))
  have HY3 : Hid (Ky mv.ownBlock ib gm w W3) := (Ky.of (hb1.drew.drew)).trans (Ky.turned hT3)
  have HI0 := hidK hi0
  have hB3 : B ≤ W3.heap.size := by rw [hT3.size]; exact Nat.le_trans hB hb1.size
  have hgl3 : gm < W3.heap.size := by rw [hT3.size]; exact hM2.lt
  subst q4
  have c0 := cell_rowK hi1 0 _ rfl
  have c1 := cell_rowK hi1 1 _ rfl
  have x4 := cell_rowK hX1 4 _ rfl
  have HI3 := hidK hi3; have HX3 := hidK hX3; have HO3 := hidK ho3; have HK3 := hidK hk3; have HM3 := hidK hM3
  have HNN := hidK hnn; have HNO := hidK hno; have HW1 := hidK hW1
  clear hi0 ho hM hM1 hM2 hi1 hX1 hT3 hi3 hX3 ho3 hk3 hM3 hom hb1 ho1 hne hz3 hnn hno hnone hsome hW1
  go_enter Try.func32, Try.ntmps32
  go_upto_region 1 with fail
  rw [← HW1.out]
  go_wp2
  go_region
  go_wp2
  go_region
  have c30 := cell_rowK HI3.out 0 _ rfl
  have x30 := cell_rowK HX3.out 0 _ rfl
  have x31 := cell_rowK HX3.out 1 _ rfl
  have x32 := cell_rowK HX3.out 2 _ rfl
  have x33 := cell_rowK HX3.out 3 _ rfl
  have x34 := cell_rowK HX3.out 4 _ rfl
  have x35 := cell_rowK HX3.out 5 _ rfl
  have x36 := cell_rowK HX3.out 6 _ rfl
  have hlt3 : ib < W3.heap.size := (Array.getElem?_eq_some_iff.1 HI3.out).1
  go_wp2
  go_region_law (refine step_append_own rfl (.tmp 36) (.tmp 38) 22 rfl B 32 i0 (.agg #[.int .i64 0, .int .i64 0, .int .i64 0, .int .i64 0, .string ⟨#[]⟩, .int .i64 0, .string ⟨#[]⟩]) 7 72 Try.underlying22 hi hz0 hz1 hz2 rfl (by decide) (.slice ao n cap) n (ms.flatMap mxL) (by simp [Act.eval]) (own_upK HO3.out (.cells #[.int .i64 dd, .int .i64 uu, .int .i64 gg, .int .i64 mm, .string nn, .int .i64 zz, .string dt] 32)) ⟨W3.heap.size, 0, none⟩ 1 1 (mxL ⟨dd, uu, gg, mm, nn, zz, dt⟩) (by simp [Act.eval]) rfl (new_rowK W3.drew #[.int .i64 dd, .int .i64 uu, .int .i64 gg, .int .i64 mm, .string nn, .int .i64 zz, .string dt] 32 (mxL ⟨dd, uu, gg, mm, nn, zz, dt⟩) rfl) (mxL_one ⟨dd, uu, gg, mm, nn, zz, dt⟩) (by unfold maxLen; omega) (by omega) (show B ≤ (W3.alloc (.cells #[.int .i64 dd, .int .i64 uu, .int .i64 gg, .int .i64 mm, .string nn, .int .i64 zz, .string dt] 32)).heap.size by rw [World.size_alloc]; exact Nat.le_succ_of_le hB3) ?_; intro v6 w6 ho6 hg6; obtain ⟨g6, cap6, rfl⟩ := ownsRow_succ ho6; have hi6 := row_grown (hupK (show W3.drew.heap[ib]? = _ from HI3.out) (.cells #[.int .i64 dd, .int .i64 uu, .int .i64 gg, .int .i64 mm, .string nn, .int .i64 zz, .string dt] 32)) (own_upK HO3.out (.cells #[.int .i64 dd, .int .i64 uu, .int .i64 gg, .int .i64 mm, .string nn, .int .i64 zz, .string dt] 32)) (by decide) hg6; have c60 := cell_rowK hi6 0 _ rfl; have f60 := froz_row13 hi6 0)
  all_goals
    have hM6 := map_grown ((HM3.out.on (bupK (Below.refl _ _) (.cells #[.int .i64 dd, .int .i64 uu, .int .i64 gg, .int .i64 mm, .string nn, .int .i64 zz, .string dt] 32))).keep (show (W3.drew.alloc (.cells #[.int .i64 dd, .int .i64 uu, .int .i64 gg, .int .i64 mm, .string nn, .int .i64 zz, .string dt] 32)).heap[gm]? = _ from rfl)) (own_upK HO3.out (.cells #[.int .i64 dd, .int .i64 uu, .int .i64 gg, .int .i64 mm, .string nn, .int .i64 zz, .string dt] 32)) hg6
    have hgl6 := hM6.lt
    have hfin : InsAt B ib gm (w6.setCell ⟨ib, 0, none⟩ (.slice (some ⟨g6, 0, none⟩) (n + 1) cap6)) (ms ++ [⟨dd, uu, gg, mm, nn, zz, dt⟩]) ∧ Kx B ib gm w (w6.setCell ⟨ib, 0, none⟩ (.slice (some ⟨g6, 0, none⟩) (n + 1) cap6)) ∧ Ky (Value.slice ao n cap).ownBlock ib gm w (w6.setCell ⟨ib, 0, none⟩ (.slice (some ⟨g6, 0, none⟩) (n + 1) cap6)) := by
      refine ⟨⟨_, set_row13 (i := 0) _ hi6, own_push HNN.out.symm (own_set (i := 0) ho6 hi6 (by decide) _), ?_, ?_⟩, ?_, ?_⟩
      · have e := mapN_new (x := ⟨dd, uu, gg, mm, nn, zz, dt⟩) HNO.out
        rw [e]
        refine (hM6.keep (Below.heap_setCell w6 _ _ gm (fun e => hib e.symm))).same ?_
        rw [HNN.out]; rfl
      · have h2 : (W3.drew.alloc (.cells #[.int .i64 dd, .int .i64 uu, .int .i64 gg, .int .i64 mm, .string nn, .int .i64 zz, .string dt] 32)).heap.size = W3.heap.size + 1 := by rw [World.size_alloc]; rfl
        have h1 : W3.heap.size + 1 ≤ w6.heap.size := Nat.le_trans (Nat.le_of_eq h2.symm) hg6.size
        have h3 : (w6.setCell ⟨ib, 0, none⟩ (.slice (some ⟨g6, 0, none⟩) (n + 1) cap6)).heap.size = w6.heap.size := by simp
        rw [h3]; omega
      · exact ((HK3.out.trans (Kx.of (bupK (Below.drew (Below.refl _ _)) (.cells #[.int .i64 dd, .int .i64 uu, .int .i64 gg, .int .i64 mm, .string nn, .int .i64 zz, .string dt] 32)))).trans (Kx.row (own_upK HO3.out (.cells #[.int .i64 dd, .int .i64 uu, .int .i64 gg, .int .i64 mm, .string nn, .int .i64 zz, .string dt] 32)) hg6)).trans (Kx.box grown_set)
      · exact ((HY3.out.trans (Ky.of (bupK (Below.drew (Below.refl _ _)) (.cells #[.int .i64 dd, .int .i64 uu, .int .i64 gg, .int .i64 mm, .string nn, .int .i64 zz, .string dt] 32)))).trans (Ky.row hg6)).trans (Ky.box grown_set)
    generalize w6.setCell ⟨ib, 0, none⟩ (.slice (some ⟨g6, 0, none⟩) (n + 1) cap6) = w7 at hfin ⊢
    clear hM6 hg6 hi6 ho6 c60 f60 c30 x30 x31 x32 x33 x34 x35 x36
    go_wp2
    go_ret
    exact ⟨rfl, hfin.1, hfin.2.1, fun mv' hm' => by rw [HI0.out] at hm'; injection hm' with hm'; injection hm' with hm' _ _; rw [← show Value.slice ao n cap = mv' by simpa using hm']; exact hfin.2.2⟩
/-- a store of a whole element into a row, as a step of a region that draws -/
theorem step_store_row_G {P : Program} {ops : Array Oper} {o : Oper} {a : Act} {w : World} {K : Act → World → Prop} {Q : Exit → Act → World → Prop} {E : Prop} (hgd : o.guard = none) (hd : o.dst = none) (ty : TypeId) (x y : Operand) (ho : o.op = .store ty x y)
    (g off : Nat) (v : Value) (hx : a.eval x = .pointer (some ⟨g, off, none⟩)) (hy : a.eval y = v)
    (t : TypeId) (old new : Array Value) (hg : w.heap[g]? = some (.cells old t (0, 0))) (hi : (P.info? ty).map (·.size) = some v.cells.size)
    (hfit : Nat.ble (off + v.cells.size) old.size = true) (h1 : v.cells.toList.all (·.oneCell') = true) (hnew : putG old off v.cells = new)
    (h : ∀ W : World, W.heap[g]? = some (.cells new t (0, 0)) → w.grownBy W (some g) → K a W) :
    if Region.wanted o (yielded ops a.tmps) = true then Oper.wp P o a w K Q else E := by
  rw [if_pos (by simp [Region.wanted, hgd])]
  subst hy
  have hst : (storeVar ty ⟨g, off, none⟩ (a.eval y)).run P w = .ok () (w.setRow g new) := by
    have := run_storeCells_at (P := P) g off t (a.eval y).cells.toList 0 old w hg (by simpa using Nat.le_of_ble_eq_true hfit) (fun v hv => (List.all_eq_true.1 h1) v hv)
    cases hq : P.info? ty with
    | none => simp [hq] at hi
    | some i =>
      have hs : (a.eval y).cells.size = i.size := by simp [hq] at hi; omega
      simp only [Nat.add_zero, Array.length_toList] at this
      unfold putG at hnew
      rw [hnew] at this
      simp [storeVar, sizeOf, typeInfo, hq, hs, this]
  unfold Oper.wp execOp
  simp only [ho, hx, Instr.storeAt, Instr.sureAddr, Sem.run_bind, Sem.run_pure, Result.andThen_ok, hst]
  have := h _ (setRow_heap w g old new t (0, 0) hg) ⟨rfl, rfl, rfl, by rw [setRow_size]; exact Nat.le_refl _, fun k _ hn => setRow_other w g k new (fun e => hn (by rw [e]))⟩
  unfold Oper.upon
  simp only [hd]
  exact this
end Go.Proofs.Ytaaagdmhokgcjaa
