import Derived.Test.YtofmiaaglbcebaaGreatDoorM0
import Derived.Test.YtofmiaaglbcebaaGreatDoorRows
import Derived.WalkKit
import Derived.OwnWalk
import Derived.Deep.Draws
import Derived.Handy
import Derived.Lib.Builder
import Derived.Laws.Rows
import Derived.Deep.RegionHeld3
import Derived.Deep.RegionLaw
import Derived.BigRegion
import Derived.Laws.AppendOwn
import Derived.Maps.AppendAt

-- Rows of entries, and the directory's questions (the document's).
namespace Go.Proofs.YtofmiaaglbcebaaGreatDoor
open Go.RowKit
set_option linter.unusedVariables false
/-- A slice of entries that reads as this directory. -/
def DirV (w : World) (v : Value) (d : Dr) : Prop :=
  (d = [] ∧ ∃ ao c, v = .slice ao 0 c) ∨ ∃ g cap, v = .slice (some ⟨g, 0, none⟩) d.length cap ∧ ∀ j, j < d.length → w.cell? ⟨g, j * 2, none⟩ = some (.string (d.getD j default).1) ∧ w.cell? ⟨g, j * 2 + 1, none⟩ = some (.int .i64 (d.getD j default).2)
set_option maxHeartbeats 1000000 in
theorem leads_c (v : Value) (d : Dr) (n : ByteArray) (w : World) (hd : DirV w v d) (hl : d.length ≤ 4194304) :
    Calls Tryz.prog 79 #[.agg #[v], .string n] w fun e w' => e = .returned (.int .i64 (leads d n)) ∧ Below w.heap.size w w' := by
  rcases hd with ⟨rfl, ao, c, rfl⟩ | ⟨g, cap, rfl, hc⟩
  · go_enter Tryz.func79, Tryz.ntmps79
    go_wp2
    refine wp_loop_rounds 1 ?_
    rw [rounds_succ]
    go_wp2
    go_ret
    exact ⟨rfl, (Below.refl _ w).alloc (Nat.le_refl _) _⟩
  · have HC : Hid (∀ j, j < d.length → w.cell? ⟨g, j * 2, none⟩ = some (.string (d.getD j default).1) ∧ w.cell? ⟨g, j * 2 + 1, none⟩ = some (.int .i64 (d.getD j default).2)) := hc
    obtain ⟨m, hm⟩ : ∃ m, m = d.length := ⟨_, rfl⟩
    have HM : Hid (m = d.length) := hm
    rw [← hm] at hl HC ⊢
    clear hm hc
    go_enter Tryz.func79, Tryz.ntmps79
    go_wp2
    go_loopw [5] (fun i wr => ∃ k : Nat, i = .int .i64 k ∧ k ≤ m ∧ (∀ j, j < k → ∀ e, d[j]? = some e → e.1 ≠ n) ∧ wr.cell? ⟨w.heap.size, 0, none⟩ = some (.slice (some ⟨g, 0, none⟩) m cap) ∧ Below w.heap.size w wr) (fun i _ => m - (intOf i).toNat)
    case atStart => exact ⟨0, rfl, Nat.zero_le _, fun j hj => by omega, by simp, (Below.refl _ w).alloc (Nat.le_refl _) _⟩
    case round =>
      obtain ⟨k, rfl, hkm, hno, hbx, hbw⟩ := hrel
      by_cases hk : k < m
      · have c0 := cell_below hbw (HC.out k hk).1
        have c1 := cell_below hbw (HC.out k hk).2
        have hge : d[k]? = some (d.getD k default) := getD_some d k (by rw [← HM.out]; exact hk)
        obtain ⟨x, y, hxy⟩ : ∃ x y, d.getD k default = (x, y) := ⟨_, _, rfl⟩
        rw [hxy] at c0 c1 hge
        have HG : Hid (d[k]? = some (x, y)) := hge
        have HNO : Hid (∀ j, j < k → ∀ e, d[j]? = some e → e.1 ≠ n) := hno
        clear hge hxy hno
        have b1 : decide ((k : Int) < (m : Int)) = true := by simp; omega
        by_cases hx : x = n
        · have b2 : (x.toList == n.toList) = true := by subst hx; simp
          have HR : Hid (leads d n = y) := by
            show _ = _
            rw [leads_take d n k HNO.out, leads_at d n k x y HG.out, if_pos hx]
          go_wp2
          go_ret
          exact ⟨by rw [HR.out]; rfl, hbw⟩
        · have b2 : (x.toList == n.toList) = false := by rw [beq_toList]; simp [hx]
          go_wp2
          exact ⟨⟨k + 1, rfl, by omega, fun j hj e he => by
            rcases Nat.lt_succ_iff_lt_or_eq.1 hj with h | h
            · exact HNO.out j h e he
            · subst h; rw [HG.out] at he; cases he; exact hx, hbx, hbw⟩, by simp [intOf]; omega⟩
      · obtain rfl : k = m := by omega
        have b1 : decide ((k : Int) < (k : Int)) = false := by simp
        have HR : Hid (leads d n = 0) := by
          show _ = _
          rw [leads_take d n k hno, HM.out, List.drop_length]; rfl
        clear hno
        go_wp2
        go_ret
        exact ⟨by rw [HR.out]; rfl, hbw⟩
set_option maxHeartbeats 1000000 in
theorem there_c (v : Value) (d : Dr) (n : Int) (w : World) (hd : DirV w v d) (hl : d.length ≤ 4194304) :
    Calls Tryz.prog 80 #[.agg #[v], .int .i64 n] w fun e w' => e = .returned (.bool (there d n)) ∧ Below w.heap.size w w' := by
  rcases hd with ⟨rfl, ao, c, rfl⟩ | ⟨g, cap, rfl, hc⟩
  · go_enter Tryz.func80, Tryz.ntmps80
    go_wp2
    refine wp_loop_rounds 1 ?_
    rw [rounds_succ]
    go_wp2
    go_ret
    exact ⟨rfl, (Below.refl _ w).alloc (Nat.le_refl _) _⟩
  · have HC : Hid (∀ j, j < d.length → w.cell? ⟨g, j * 2, none⟩ = some (.string (d.getD j default).1) ∧ w.cell? ⟨g, j * 2 + 1, none⟩ = some (.int .i64 (d.getD j default).2)) := hc
    obtain ⟨m, hm⟩ : ∃ m, m = d.length := ⟨_, rfl⟩
    have HM : Hid (m = d.length) := hm
    rw [← hm] at hl HC ⊢
    clear hm hc
    go_enter Tryz.func80, Tryz.ntmps80
    go_wp2
    go_loopw [5] (fun i wr => ∃ k : Nat, i = .int .i64 k ∧ k ≤ m ∧ there d n = there (d.drop k) n ∧ wr.cell? ⟨w.heap.size, 0, none⟩ = some (.slice (some ⟨g, 0, none⟩) m cap) ∧ Below w.heap.size w wr) (fun i _ => m - (intOf i).toNat)
    case atStart => exact ⟨0, rfl, Nat.zero_le _, rfl, by simp, (Below.refl _ w).alloc (Nat.le_refl _) _⟩
    case round =>
      obtain ⟨k, rfl, hkm, hno, hbx, hbw⟩ := hrel
      have HNO : Hid (there d n = there (d.drop k) n) := hno
      clear hno
      by_cases hk : k < m
      · have c0 := cell_below hbw (HC.out k hk).1
        have c1 := cell_below hbw (HC.out k hk).2
        have hge : d[k]? = some (d.getD k default) := getD_some d k (by rw [← HM.out]; exact hk)
        obtain ⟨x, y, hxy⟩ : ∃ x y, d.getD k default = (x, y) := ⟨_, _, rfl⟩
        rw [hxy] at c0 c1 hge
        have HG : Hid (there (d.drop k) n = (decide ((y : Int) = n) || there (d.drop (k + 1)) n)) := there_at d n k x y hge
        clear hge hxy
        have b1 : decide ((k : Int) < (m : Int)) = true := by simp; omega
        by_cases hx : (y : Int) = n
        · have b2 : ((y : Int) == n) = true := by simp [hx]
          have HR : Hid (there d n = true) := by
            show _ = _
            rw [HNO.out, HG.out]; simp [hx]
          have HX : Hid ((y : Int) = n) := hx
          clear hx
          go_wp2
          go_ret
          exact ⟨by rw [HR.out]; rfl, hbw⟩
        · have b2 : ((y : Int) == n) = false := by simp [hx]
          go_wp2
          exact ⟨⟨k + 1, rfl, by omega, by rw [HNO.out, HG.out]; simp [hx], hbx, hbw⟩, by simp [intOf]; omega⟩
      · obtain rfl : k = m := by omega
        have b1 : decide ((k : Int) < (k : Int)) = false := by simp
        have HR : Hid (there d n = false) := by
          show _ = _
          rw [HNO.out, HM.out, List.drop_length]; rfl
        go_wp2
        go_ret
        exact ⟨by rw [HR.out]; rfl, hbw⟩
def entV (d : Dr) : List Value := d.flatMap fun e => [.string e.1, .int .i64 e.2]
theorem entV_length (d : Dr) : (entV d).length = d.length * 2 := by
  induction d with
  | nil => rfl
  | cons e r ih => simp only [entV, List.flatMap_cons, List.length_append, List.length_cons, List.length_nil] at *; omega
theorem entV_append (a b : Dr) : entV (a ++ b) = entV a ++ entV b := by simp [entV]
theorem entV_at (d : Dr) (j : Nat) (h : j < d.length) : (entV d)[j * 2]? = some (.string (d.getD j default).1) ∧ (entV d)[j * 2 + 1]? = some (.int .i64 (d.getD j default).2) := by
  induction d generalizing j with
  | nil => simp at h
  | cons e r ih =>
    cases j with
    | zero => simp [entV]
    | succ j =>
      have := ih j (by simpa using h)
      have e1 : (j + 1) * 2 = j * 2 + 1 + 1 := by omega
      rw [e1]
      simpa [entV] using this
/-- A list of entries in a row of its own. -/
def DirO (w : World) (B : Nat) (v : Value) (d : Dr) : Prop := w.ownsRow B 139 2 v d.length (entV d)
theorem DirO.dirV {w : World} {B : Nat} {v : Value} {d : Dr} (h : DirO w B v d) : DirV w v d := by
  rcases h.2 with ⟨rfl, h0⟩ | ⟨g, cap, cur, rfl, _⟩
  · exact .inl ⟨List.eq_nil_of_length_eq_zero h0, none, 0, rfl⟩
  · refine .inr ⟨g, cap, rfl, fun j hj => ?_⟩
    obtain ⟨e1, e2⟩ := entV_at d j hj
    have a1 := World.ownsRow.cells h (g := g) rfl _ _ e1
    have a2 := World.ownsRow.cells h (g := g) rfl _ _ e2
    rw [add_lit0] at a1 a2
    exact ⟨a1, a2⟩
theorem infoE : (Tryz.prog.info? 139).map (fun i => (i.zero, i.size, i.bytes)) = some (some (.agg #[.string ⟨#[]⟩, .int .i64 0]), 2, 24) := by kernel_rfl
theorem two_new (w : World) (x y : Value) (t : TypeId) : ∀ j u, [x, y][j]? = some u → (w.alloc (.cells #[x, y] t)).cell? ((⟨w.heap.size, 0, none⟩ : Addr).add j) = some u := by
  intro j u hj
  match j, hj with
  | 0, hj => simp at hj; subst hj; simp [Addr.add]
  | 1, hj => simp at hj; subst hj; simp [Addr.add]
theorem two_one (x : ByteArray) (y : Int) : ∀ u ∈ [Value.string x, .int .i64 y], u.oneCell' = true := by
  intro u hu; simp at hu; rcases hu with rfl | rfl <;> rfl
theorem sizeD : (Tryz.prog.info? 105).map (·.size) = some 1 := by kernel_rfl
set_option maxHeartbeats 1000000 in
theorem without_c (v : Value) (d : Dr) (n : ByteArray) (w : World) (hd : DirV w v d) (hl : d.length ≤ 4194304) :
    Calls Tryz.prog 90 #[.agg #[v], .string n] w fun e w' => (∃ v', e = .returned (.agg #[v']) ∧ DirO w' w.heap.size v' (without d n)) ∧ Below w.heap.size w w' := by
  obtain ⟨i0, hi, hz0, hz1, hz2⟩ := info_parts infoE
  rcases hd with ⟨rfl, ao, c, rfl⟩ | ⟨g, cap, rfl, hc⟩
  · go_enter Tryz.func90, Tryz.ntmps90
    go_wp2
    refine wp_loop_rounds 1 ?_
    rw [rounds_succ]
    go_wp2
    go_returns
    exact ⟨⟨_, rfl, World.ownsRow_nil _ _ _ _⟩, ((Below.refl _ w).alloc (Nat.le_refl _) _).alloc (by simp) _⟩
  · have HC : Hid (∀ j, j < d.length → w.cell? ⟨g, j * 2, none⟩ = some (.string (d.getD j default).1) ∧ w.cell? ⟨g, j * 2 + 1, none⟩ = some (.int .i64 (d.getD j default).2)) := hc
    obtain ⟨m, hm⟩ : ∃ m, m = d.length := ⟨_, rfl⟩
    have HM : Hid (m = d.length) := hm
    rw [← hm] at hl HC ⊢
    clear hm hc
    go_enter Tryz.func90, Tryz.ntmps90
    go_wp2
    go_loopw [5, 6] (fun o i wr => ∃ k : Nat, i = .int .i64 k ∧ k ≤ m ∧ wr.ownsRow (w.heap.size + 2) 139 2 o (without (d.take k) n).length (entV (without (d.take k) n)) ∧
      Below (w.heap.size + 2) ((w.alloc (.cells #[.slice (some ⟨g, 0, none⟩) m cap] 105)).alloc (.cells #[.slice none 0 0] 105)) wr) (fun _ i _ => m - (intOf i).toNat)
    case atStart => exact ⟨0, rfl, Nat.zero_le _, World.ownsRow_nil _ _ _ _, Below.refl _ _⟩
    case round =>
      obtain ⟨k, rfl, hkm, hown, hbw⟩ := hrel
      have hbs : w.heap.size + 2 ≤ wr.heap.size := by have := hbw.size; simpa using this
      have hb0 : Below w.heap.size w wr := (((Below.refl _ w).alloc (Nat.le_refl _) _).alloc (by simp) _).trans (hbw.mono (by omega))
      have hbx : wr.cell? ⟨w.heap.size, 0, none⟩ = some (.slice (some ⟨g, 0, none⟩) m cap) := by
        have := hbw.block w.heap.size (by omega)
        rw [heap_alloc2_old] at this
        rw [Lib.cell_of_heap this]; rfl
      by_cases hk : k < m
      · have c0 := cell_below hb0 (HC.out k hk).1
        have c1 := cell_below hb0 (HC.out k hk).2
        have hge : d[k]? = some (d.getD k default) := getD_some d k (by rw [← HM.out]; exact hk)
        obtain ⟨x, y, hxy⟩ : ∃ x y, d.getD k default = (x, y) := ⟨_, _, rfl⟩
        rw [hxy] at c0 c1 hge
        have HG : Hid (without (d.take (k + 1)) n = without (d.take k) n ++ (if x = n then [] else [(x, y)])) := without_take d n k x y hge
        clear hge hxy
        have b1 : decide ((k : Int) < (m : Int)) = true := by simp; omega
        have hwl : (without (d.take k) n).length ≤ k := by have := without_len (d.take k) n; rw [List.length_take] at this; omega
        obtain ⟨q, hq⟩ : ∃ q, q = without (d.take k) n := ⟨_, rfl⟩
        rw [← hq] at hown HG hwl
        clear hq
        by_cases hx : x = n
        · have b2 : (x.toList == n.toList) = true := by subst hx; simp
          have HX : Hid (x = n) := hx
          clear hx
          go_wp2
          exact ⟨⟨k + 1, rfl, by omega, by rw [HG.out, if_pos HX.out, List.append_nil]; exact hown, hbw⟩, by simp [intOf]; omega⟩
        · have b2 : (x.toList == n.toList) = false := by rw [beq_toList]; simp [hx]
          go_wp2_with (at_builtin; refine wpList_append_own _ rfl _ _ 103 rfl (w.heap.size + 2) 139 i0 (.agg #[.string ⟨#[]⟩, .int .i64 0]) 2 24 Tryz.underlying103 hi hz0 hz1 hz2 rfl (by decide) _ _ _ rfl (hown.alloc _) ⟨wr.heap.size, 0, none⟩ 1 1 [.string x, .int .i64 y] rfl rfl (two_new _ _ _ _) (two_one _ _) ?c3 ?c4 ?c5 ?_)
          case c3 => unfold maxLen; omega
          case c4 => omega
          case c5 => first | omega | (simp; omega)
          intro v' w2 hown' hgrow _
          have hb2 : Below (w.heap.size + 2) ((w.alloc (.cells #[.slice (some ⟨g, 0, none⟩) m cap] 105)).alloc (.cells #[.slice none 0 0] 105)) w2 := (hbw.alloc hbs _).grown hgrow (by simp; omega) (fun k hk => (hown.lt k hk).1)
          have ho2 : w2.ownsRow (w.heap.size + 2) 139 2 v' (q ++ [(x, y)]).length (entV (q ++ [(x, y)])) := by rw [entV_append, List.length_append]; exact hown'
          clear hgrow hown' hown hbw
          go_wp2
          exact ⟨⟨k + 1, rfl, by omega, by rw [HG.out, if_neg hx]; exact ho2, hb2⟩, by simp [intOf]; omega⟩
      · obtain rfl : k = m := by omega
        have b1 : decide ((k : Int) < (k : Int)) = false := by simp
        have HT : Hid (d.take k = d) := by show _ = _; rw [HM.out, List.take_length]
        rw [HT.out] at hown
        have hrs : wr.heap[w.heap.size + 1]? = some (.cells #[.slice none 0 0] 105) := by
          have := hbw.block (w.heap.size + 1) (by omega)
          rw [heap_alloc2_new] at this; exact this
        have hrc : wr.cell? ⟨w.heap.size + 1, 0, none⟩ = some (.slice none 0 0) := by rw [Lib.cell_of_heap hrs]; rfl
        have hrf : wr.frozen? ⟨w.heap.size + 1, 0, none⟩ = false := by simp [World.frozen?, hrs]
        obtain ⟨q, hq⟩ : ∃ q, q = without d n := ⟨_, rfl⟩
        have HQ : Hid (q = without d n) := hq
        rw [← hq] at hown
        obtain ⟨ql, hql⟩ : ∃ l, l = q.length := ⟨_, rfl⟩
        have HL : Hid (ql = q.length) := hql
        rw [← hql] at hown
        obtain ⟨ao, cp, rfl⟩ := own_shape hown
        have hset : ∀ v, (wr.setCell ⟨w.heap.size + 1, 0, none⟩ v).heap[w.heap.size + 1]? = some (.cells #[v] 105) := fun v => set_one hrs v
        clear hrs hq hql
        go_wp2
        refine bodyPost_ret (results_cell_row rfl _ _ (w.heap.size + 1) _ _ _ _ rfl (hset _) Tryz.underlying105 rfl sizeD) rfl ?_
        refine ⟨⟨_, rfl, ?_⟩, below_setCell_new hb0 (Nat.le_succ _) _ _⟩
        rw [← HQ.out]
        show World.ownsRow _ _ _ _ _ _ _
        rw [← HL.out]
        exact own_mono (ownsRow_setCell_below hown (Nat.lt_succ_self _) _) (by omega)
theorem dir_below {w w' : World} {B : Nat} {v : Value} {d : Dr} (h : DirO w B v d) (hb : Below w.heap.size w w') : DirO w' B v d :=
  h.kept (row := none) ⟨hb.os, hb.tape, hb.output, hb.size, fun k hk _ => hb.block k hk⟩ (by cases hv : v.ownBlock <;> simp)
theorem app_ent {w w' W0 : World} {B : Nat} {v v' : Value} {q : Dr} {x : ByteArray} {y : Nat} (o : Obj) (hown : w.ownsRow B 139 2 v q.length (entV q)) (hb : Below B W0 w) (hB : B ≤ w.heap.size)
    (hown' : w'.ownsRow B 139 2 v' (q.length + 1) (entV q ++ [.string x, .int .i64 y])) (hg : (w.alloc o).grownBy w' v.ownBlock) :
    w'.ownsRow B 139 2 v' (q ++ [(x, y)]).length (entV (q ++ [(x, y)])) ∧ Below B W0 w' := by
  refine ⟨by rw [entV_append, List.length_append]; exact hown', ?_⟩
  exact (hb.alloc hB o).grown hg (by simp; omega) (fun k hk => (hown.lt k hk).1)
set_option maxHeartbeats 1000000 in
theorem with_c (v : Value) (d : Dr) (n : ByteArray) (b : Nat) (w : World) (hd : DirV w v d) (hl : d.length ≤ 4194304) :
    Calls Tryz.prog 81 #[.agg #[v], .string n, .int .i64 b] w fun e w' => (∃ v', e = .returned (.agg #[v']) ∧ DirO w' w.heap.size v' (with_ d n b)) ∧ Below w.heap.size w w' := by
  obtain ⟨i0, hi, hz0, hz1, hz2⟩ := info_parts infoE
  obtain ⟨ao, cp, hv⟩ : ∃ ao cp, v = .slice ao d.length cp := by
    rcases hd with ⟨rfl, ao, c, rfl⟩ | ⟨g, cap, rfl, hc⟩
    · exact ⟨_, _, rfl⟩
    · exact ⟨_, _, rfl⟩
  have HW : Hid (∀ wx, Below w.heap.size w wx → Calls Tryz.prog 90 #[.agg #[v], .string n] wx fun e w' => (∃ v', e = .returned (.agg #[v']) ∧ DirO w' wx.heap.size v' (without d n)) ∧ Below wx.heap.size wx w') := fun wx hb => without_c v d n wx (by
    rcases hd with h | ⟨g, cap, rfl, hc⟩
    · exact .inl h
    · exact .inr ⟨g, cap, rfl, fun j hj => ⟨cell_below hb (hc j hj).1, cell_below hb (hc j hj).2⟩⟩) hl
  have hwl := without_len d n
  obtain ⟨q, hq⟩ : ∃ q, q = without d n := ⟨_, rfl⟩
  rw [← hq] at HW hwl
  have HQ : Hid (with_ d n b = ins n b q) := by show _ = _; rw [hq]; rfl
  rw [HQ.out]
  have hb2 : Below w.heap.size w ((w.alloc (.cells #[v] 105)).alloc (.cells #[.slice none 0 0] 105)) := ((Below.refl _ w).alloc (Nat.le_refl _) _).alloc (by simp) _
  clear hq hd
  subst hv
  obtain ⟨m, hm⟩ : ∃ m, m = q.length := ⟨_, rfl⟩
  have HM : Hid (m = q.length) := hm
  rw [← hm] at hwl
  go_enter Tryz.func81, Tryz.ntmps81
  go_wp2_with (go_at_call 90; refine (HW.out _ hb2).mono ?_; rintro e w3 ⟨⟨v3, rfl, hd3⟩, hb3⟩; obtain ⟨ao3, c3, rfl⟩ := own_shape hd3)
  rw [← hm] at hd3 ⊢
  have hdv := hd3.dirV
  have hb30 : Below w.heap.size w w3 := hb2.trans (hb3.mono (by simp; omega))
  have hs3 : w.heap.size + 2 ≤ w3.heap.size := by have := hb3.size; simpa using this
  have HRS : Hid (w3.heap[w.heap.size + 1]? = some (.cells #[.slice none 0 0] 105)) := by
    show _ = _
    rw [hb3.block (w.heap.size + 1) (by simp), heap_alloc2_new]
  have HDV : Hid (∀ j, j < m → ∃ g, ao3 = some ⟨g, 0, none⟩ ∧ w3.cell? ⟨g, j * 2, none⟩ = some (.string (q.getD j default).1) ∧ w3.cell? ⟨g, j * 2 + 1, none⟩ = some (.int .i64 (q.getD j default).2)) := by
    intro j hj
    rcases hdv with ⟨h0, _⟩ | ⟨g, cap, hv, hc⟩
    · rw [hm, h0] at hj; simp at hj
    · cases hv; exact ⟨g, rfl, hc j (by rw [← hm]; exact hj)⟩
  clear hd3 hdv HW hb2 hm hb3
  go_loopw [8, 9, 10] (fun o dn i wr => ∃ (k : Nat) (D : Bool) (L : Dr), i = .int .i64 k ∧ dn = .bool D ∧ k ≤ m ∧ L.length ≤ k + 1 ∧ wr.ownsRow (w3.heap.size + 1) 139 2 o L.length (entV L) ∧
      Below (w3.heap.size + 1) (w3.alloc (.cells #[.slice ao3 m c3] 105)) wr ∧
      (D = true → L ++ q.drop k = ins n b q) ∧ (D = false → L = q.take k ∧ ∀ j, j < k → ∀ e, q[j]? = some e → ltB n e.1 = false)) (fun _ _ i _ => m - (intOf i).toNat)
  case atStart => exact ⟨0, false, [], rfl, rfl, Nat.zero_le _, by simp, World.ownsRow_nil _ _ _ _, Below.refl _ _, (fun h => by cases h), fun _ => ⟨rfl, fun j hj => by omega⟩⟩
  case round =>
    obtain ⟨k, D, L, rfl, rfl, hkm, hLk, hown, hbw, hT, hF⟩ := hrel
    have HT : Hid (D = true → L ++ q.drop k = ins n b q) := hT
    have HF : Hid (D = false → L = q.take k ∧ ∀ j, j < k → ∀ e, q[j]? = some e → ltB n e.1 = false) := hF
    clear hT hF
    have hbs : w3.heap.size + 1 ≤ wr.heap.size := by have := hbw.size; simpa using this
    have hb3 : Below w3.heap.size w3 wr := ((Below.refl _ w3).alloc (Nat.le_refl _) _).trans (hbw.mono (by omega))
    have hbx : wr.cell? ⟨w3.heap.size, 0, none⟩ = some (.slice ao3 m c3) := by
      have := hbw.block w3.heap.size (by omega)
      rw [heap_alloc_new] at this
      rw [Lib.cell_of_heap this]; rfl
    by_cases hk : k < m
    · obtain ⟨g, rfl, d0, d1⟩ := HDV.out k hk
      have hge : q[k]? = some (q.getD k default) := getD_some q k (by rw [← HM.out]; exact hk)
      obtain ⟨x, y, hxy⟩ : ∃ x y, q.getD k default = (x, y) := ⟨_, _, rfl⟩
      rw [hxy] at d0 d1 hge
      have c0 := cell_below hb3 d0
      have c1 := cell_below hb3 d1
      have HG : Hid (q[k]? = some (x, y)) := hge
      have HD : Hid (q.drop k = (x, y) :: q.drop (k + 1)) := drop_get q k _ hge
      clear hge hxy
      have b1 : decide ((k : Int) < (m : Int)) = true := by simp; omega
      cases D with
      | true =>
        have HE := HT.out rfl
        rw [HD.out] at HE
        have HE' : Hid (L ++ [(x, y)] ++ q.drop (k + 1) = ins n b q) := by show _ = _; rw [← HE]; simp
        clear HE HT HF HD
        go_wp2_with (at_builtin; refine wpList_append_own _ rfl _ _ 103 rfl (w3.heap.size + 1) 139 i0 (.agg #[.string ⟨#[]⟩, .int .i64 0]) 2 24 Tryz.underlying103 hi hz0 hz1 hz2 rfl (by decide) _ _ _ rfl (hown.alloc _) ⟨wr.heap.size, 0, none⟩ 1 1 [.string x, .int .i64 y] rfl rfl (two_new _ _ _ _) (two_one _ _) ?c3 ?c4 ?c5 ?_)
        case c3 => unfold maxLen; omega
        case c4 => omega
        case c5 => first | omega | (simp; omega)
        intro v' w2 hown' hgrow _
        have R := app_ent _ hown hbw hbs hown' hgrow
        clear hown' hgrow hown hbw
        go_wp2
        exact ⟨⟨k + 1, true, L ++ [(x, y)], rfl, rfl, by omega, by simp; omega, R.1, R.2, fun _ => HE'.out, fun h => by cases h⟩, by simp [intOf]; omega⟩
      | false =>
        have HE : Hid (L = q.take k) := (HF.out rfl).1
        have HN : Hid (∀ j, j < k → ∀ e, q[j]? = some e → ltB n e.1 = false) := (HF.out rfl).2
        clear HT HF
        by_cases hx : ltB n x = true
        · have b2 : Op.bytesLess n.toList x.toList = true := hx
          have HX : Hid (L ++ [(n, b)] ++ [(x, y)] ++ q.drop (k + 1) = ins n b q) := by
            show _ = _
            rw [ins_take n b q k HN.out, ins_at n b q k x y HG.out hx, HE.out, HD.out]; simp
          clear hx
          go_wp2_with (at_builtin; refine wpList_append_own _ rfl _ _ 103 rfl (w3.heap.size + 1) 139 i0 (.agg #[.string ⟨#[]⟩, .int .i64 0]) 2 24 Tryz.underlying103 hi hz0 hz1 hz2 rfl (by decide) _ _ _ rfl (hown.alloc _) ⟨wr.heap.size, 0, none⟩ 1 1 [.string n, .int .i64 b] rfl rfl (two_new _ _ _ _) (two_one _ _) ?c3 ?c4 ?c5 ?_)
          case c3 => unfold maxLen; omega
          case c4 => omega
          case c5 => first | omega | (simp; omega)
          intro v' w2 hown' hgrow _
          have R := app_ent _ hown hbw hbs hown' hgrow
          have hgs := hgrow.size
          have hb32 : Below w3.heap.size w3 w2 := ((Below.refl _ w3).alloc (Nat.le_refl _) _).trans (R.2.mono (by omega))
          have c02 := cell_below hb32 d0
          have c12 := cell_below hb32 d1
          have hbx2 : w2.cell? ⟨w3.heap.size, 0, none⟩ = some (.slice (some ⟨g, 0, none⟩) m c3) := by
            have := R.2.block w3.heap.size (by omega)
            rw [heap_alloc_new] at this
            rw [Lib.cell_of_heap this]; rfl
          obtain ⟨R1, R2⟩ := R
          have hl2 : (L ++ [(n, b)]).length = L.length + 1 := by simp
          rw [hl2] at R1
          have hs2 : w3.heap.size + 1 ≤ w2.heap.size := by have := R2.size; simpa using this
          obtain ⟨L2, hL2⟩ : ∃ L2, L2 = L ++ [(n, b)] := ⟨_, rfl⟩
          have HL2 : Hid (L2 = L ++ [(n, b)]) := hL2
          rw [← hL2] at R1 HX hl2
          rw [← hl2] at R1
          have hl3 : L2.length ≤ k + 1 := by rw [hl2]; have := congrArg List.length HE.out; rw [List.length_take] at this; omega
          clear hown' hgrow hown hbw hL2 hl2 hgs c0 c1 hbx
          go_wp2_with (at_builtin; refine wpList_append_own _ rfl _ _ 103 rfl (w3.heap.size + 1) 139 i0 (.agg #[.string ⟨#[]⟩, .int .i64 0]) 2 24 Tryz.underlying103 hi hz0 hz1 hz2 rfl (by decide) _ _ _ rfl (R1.alloc _) ⟨w2.heap.size, 0, none⟩ 1 1 [.string x, .int .i64 y] rfl rfl (two_new _ _ _ _) (two_one _ _) ?c3 ?c4 ?c5 ?_)
          case c3 => unfold maxLen; omega
          case c4 => omega
          case c5 => first | omega | (simp; omega)
          intro v3 w5 hown5 hgrow5 _
          have R5 := app_ent _ R1 R2 hs2 hown5 hgrow5
          clear hown5 hgrow5 R1 R2
          go_wp2
          exact ⟨⟨k + 1, true, L2 ++ [(x, y)], rfl, rfl, by omega, by simp; omega, R5.1, R5.2, fun _ => HX.out, fun h => by cases h⟩, by simp [intOf]; omega⟩
        · have hx0 : ltB n x = false := by simpa using hx
          have b2 : Op.bytesLess n.toList x.toList = false := hx0
          have HX : Hid (L ++ [(x, y)] = q.take (k + 1) ∧ ∀ j, j < k + 1 → ∀ e, q[j]? = some e → ltB n e.1 = false) := by
            refine ⟨?_, fun j hj e he => ?_⟩
            · rw [HE.out, List.take_add_one, HG.out]; rfl
            · rcases Nat.lt_succ_iff_lt_or_eq.1 hj with h | h
              · exact HN.out j h e he
              · subst h; rw [HG.out] at he; cases he; exact hx0
          clear hx hx0
          go_wp2_with (at_builtin; refine wpList_append_own _ rfl _ _ 103 rfl (w3.heap.size + 1) 139 i0 (.agg #[.string ⟨#[]⟩, .int .i64 0]) 2 24 Tryz.underlying103 hi hz0 hz1 hz2 rfl (by decide) _ _ _ rfl (hown.alloc _) ⟨wr.heap.size, 0, none⟩ 1 1 [.string x, .int .i64 y] rfl rfl (two_new _ _ _ _) (two_one _ _) ?c3 ?c4 ?c5 ?_)
          case c3 => unfold maxLen; omega
          case c4 => omega
          case c5 => first | omega | (simp; omega)
          intro v' w2 hown' hgrow _
          have R := app_ent _ hown hbw hbs hown' hgrow
          clear hown' hgrow hown hbw
          go_wp2
          exact ⟨⟨k + 1, false, L ++ [(x, y)], rfl, rfl, by omega, by simp; omega, R.1, R.2, (fun h => by cases h), fun _ => HX.out⟩, by simp [intOf]; omega⟩
    · obtain rfl : k = m := by omega
      have b1 : decide ((k : Int) < (k : Int)) = false := by simp
      have hrs : wr.heap[w.heap.size + 1]? = some (.cells #[.slice none 0 0] 105) := by
        rw [hb3.block (w.heap.size + 1) (by omega), HRS.out]
      have hb0 : Below w.heap.size w wr := hb30.trans (hb3.mono (by omega))
      cases D with
      | true =>
        have hE := HT.out rfl
        rw [HM.out, List.drop_length, List.append_nil] at hE
        have HE : Hid (L = ins n b q) := hE
        have hrc : wr.cell? ⟨w.heap.size + 1, 0, none⟩ = some (.slice none 0 0) := by rw [Lib.cell_of_heap hrs]; rfl
        have hrf : wr.frozen? ⟨w.heap.size + 1, 0, none⟩ = false := by simp [World.frozen?, hrs]
        have hset : ∀ v, (wr.setCell ⟨w.heap.size + 1, 0, none⟩ v).heap[w.heap.size + 1]? = some (.cells #[v] 105) := fun v => set_one hrs v
        obtain ⟨ql, hql⟩ : ∃ l, l = L.length := ⟨_, rfl⟩
        have HL : Hid (ql = L.length) := hql
        rw [← hql] at hown
        obtain ⟨ao, cp, rfl⟩ := own_shape hown
        clear hrs hql HT HF hE
        go_wp2
        refine bodyPost_ret (results_cell_row rfl _ _ (w.heap.size + 1) _ _ _ _ rfl (hset _) Tryz.underlying105 rfl sizeD) rfl ?_
        refine ⟨⟨_, rfl, ?_⟩, below_setCell_new hb0 (Nat.le_succ _) _ _⟩
        rw [← HE.out]
        show World.ownsRow _ _ _ _ _ _ _
        rw [← HL.out]
        exact own_mono (ownsRow_setCell_below hown (show w.heap.size + 1 < w3.heap.size + 1 by omega) _) (by omega)
      | false =>
        have HE : Hid (L ++ [(n, b)] = ins n b q) := by
          show _ = _
          rw [ins_take n b q k (HF.out rfl).2, (HF.out rfl).1]
          rw [show q.drop k = [] from List.drop_eq_nil_of_le (by rw [HM.out]; exact Nat.le_refl _)]; rfl
        clear HT HF
        go_wp2_with (at_builtin; refine wpList_append_own _ rfl _ _ 103 rfl (w3.heap.size + 1) 139 i0 (.agg #[.string ⟨#[]⟩, .int .i64 0]) 2 24 Tryz.underlying103 hi hz0 hz1 hz2 rfl (by decide) _ _ _ rfl (hown.alloc _) ⟨wr.heap.size, 0, none⟩ 1 1 [.string n, .int .i64 b] rfl rfl (two_new _ _ _ _) (two_one _ _) ?c3 ?c4 ?c5 ?_)
        case c3 => unfold maxLen; omega
        case c4 => omega
        case c5 => first | omega | (simp; omega)
        intro v' w2 hown' hgrow _
        obtain ⟨R1, R2⟩ := app_ent _ hown hbw hbs hown' hgrow
        clear hown' hgrow hown hbw
        rw [HE.out] at R1
        have hb32 : Below w3.heap.size w3 w2 := ((Below.refl _ w3).alloc (Nat.le_refl _) _).trans (R2.mono (by omega))
        have hrs : w2.heap[w.heap.size + 1]? = some (.cells #[.slice none 0 0] 105) := by
          rw [hb32.block (w.heap.size + 1) (by omega), HRS.out]
        have hb02 : Below w.heap.size w w2 := hb30.trans (hb32.mono (by omega))
        have hrc : w2.cell? ⟨w.heap.size + 1, 0, none⟩ = some (.slice none 0 0) := by rw [Lib.cell_of_heap hrs]; rfl
        have hrf : w2.frozen? ⟨w.heap.size + 1, 0, none⟩ = false := by simp [World.frozen?, hrs]
        have hset : ∀ v, (w2.setCell ⟨w.heap.size + 1, 0, none⟩ v).heap[w.heap.size + 1]? = some (.cells #[v] 105) := fun v => set_one hrs v
        obtain ⟨ql, hql⟩ : ∃ l, l = (ins n b q).length := ⟨_, rfl⟩
        have HL : Hid (ql = (ins n b q).length) := hql
        rw [← hql] at R1
        obtain ⟨ao, cp, rfl⟩ := own_shape R1
        clear hrs hql
        go_wp2
        refine bodyPost_ret (results_cell_row rfl _ _ (w.heap.size + 1) _ _ _ _ rfl (hset _) Tryz.underlying105 rfl sizeD) rfl ?_
        refine ⟨⟨_, rfl, ?_⟩, below_setCell_new hb02 (Nat.le_succ _) _ _⟩
        show World.ownsRow _ _ _ _ _ _ _
        rw [← HL.out]
        exact own_mono (ownsRow_setCell_below R1 (show w.heap.size + 1 < w3.heap.size + 1 by omega) _) (by omega)
end Go.Proofs.YtofmiaaglbcebaaGreatDoor

-- The document's volume in memory.
namespace Go.Proofs.YtofmiaaglbcebaaGreatDoor
open Go.RowKit
set_option linter.unusedVariables false
def bodV (l : List Bd) : List Value := l.flatMap fun b => [.int .i64 b.date, .int .i64 b.uid, .int .i64 b.gid, .int .i64 b.mode, .string b.data, .int .i64 b.safe]
theorem bodV_length (l : List Bd) : (bodV l).length = l.length * 6 := by
  induction l with
  | nil => rfl
  | cons e r ih => simp only [bodV, List.flatMap_cons, List.length_append, List.length_cons, List.length_nil] at *; omega
/-- The volume's struct lies in block p, its rows in blocks of F. -/
structure RefAt (F : Nat → Prop) (p : Nat) (st : St) (bv dv : Value) (dvs : List Value) (w : World) : Prop where
  fp : F p
  blk : w.heap[p]? = some (.cells #[.int .i64 st.cap, bv, dv] 109 (0, 0))
  bod : w.ownsRow 0 141 6 bv st.bodies.length (bodV st.bodies)
  bodF : ∀ k, bv.ownBlock = some k → F k
  drs : w.ownsRow 0 105 1 dv st.dirs.length dvs
  drsF : ∀ k, dv.ownBlock = some k → F k
  ent : ∀ (i : Nat) (d : Dr), st.dirs[i]? = some d → ∃ v, dvs[i]? = some v ∧ DirO w 0 v d ∧ ∀ k, v.ownBlock = some k → F k
set_option maxHeartbeats 1000000 in
theorem now_c (F : Nat → Prop) (p : Nat) (st : St) (bv dv : Value) (dvs : List Value) (w : World) (h : RefAt F p st bv dv dvs w) (hw : Wf st) :
    Calls Tryz.prog 78 #[.pointer (some ⟨p, 0, none⟩)] w fun e w' => (∃ v, e = .returned (.agg #[v]) ∧ DirO w 0 v st.now ∧ ∀ k, v.ownBlock = some k → F k) ∧ Below w.heap.size w w' := by
  have hlen := h.drs.1
  have c2 : w.cell? ⟨p, 2, none⟩ = some dv := by rw [Lib.cell_of_heap h.blk]; rfl
  have hne := hw.ne
  obtain ⟨n, hn⟩ : ∃ n, st.dirs.length = n + 1 := by
    cases hl : st.dirs with
    | nil => exact absurd hl hne
    | cons a r => exact ⟨r.length, rfl⟩
  have hlast : st.dirs[n]? = some st.now := by
    unfold St.now
    rw [List.getLast?_eq_getElem?, hn]
    simp
    rw [List.getElem?_eq_getElem (by omega)]; rfl
  obtain ⟨v, hv, hdo, hvF⟩ := h.ent n _ hlast
  rcases h.drs.2 with ⟨_, h0⟩ | ⟨g, cap, cur, rfl, _, _⟩
  · omega
  have cn := h.drs.cells (g := g) rfl n v hv
  rw [add_lit0] at cn
  rw [hn] at c2
  have hlong := hw.long
  rw [hn] at hlong
  have HR : Hid (DirO w 0 v st.now ∧ ∀ k, v.ownBlock = some k → F k) := ⟨hdo, hvF⟩
  obtain ⟨ao, cp, rfl⟩ := own_shape hdo
  obtain ⟨ql, hql⟩ : ∃ l, l = st.now.length := ⟨_, rfl⟩
  rw [← hql] at HR cn
  clear hn hlast hv hdo hvF hne hlen hql h hw
  have k0 : (0 : Int) ≤ (n : Int) := by omega
  have k1 : (n : Int) < (n : Int) + 1 := by omega
  have k2 : IntKind.i64.wrap (n : Int) = (n : Int) := wrap_i64 (by omega)
  have hplt : p < w.heap.size := World.block_lt_of_cell? w _ c2
  have hglt : g < w.heap.size := World.block_lt_of_cell? w _ cn
  have n1 := World.new_ne w _ c2
  have n2 := World.new_ne w _ cn
  go_enter Tryz.func78, Tryz.ntmps78
  go_wp2
  go_region_held3 (fun w' => w'.cell? ⟨p, 2, none⟩ = some (.slice (some ⟨g, 0, none⟩) (n + 1) cap) ∧ w'.cell? ⟨g, n, none⟩ = some (.slice ao ql cp)) (go_keep) (fail)
  go_wp2
  refine bodyPost_ret (results_cell_row rfl _ _ w.heap.size _ _ _ _ rfl (heap_alloc_new w _) Tryz.underlying105 rfl sizeD) rfl ?_
  exact ⟨⟨_, rfl, HR.out⟩, ((Below.refl _ w).alloc (Nat.le_refl _) _).drew⟩
theorem idx (s : ByteArray) (k : Nat) (h : k < s.size) : ∀ w, (Instr.index 9 (.string s) (.int .i64 (k : Int))).run Tryz.prog w = .ok (.int .u8 (s[k].toNat : Int)) w := by
  intro w
  rw [run_index_string w 9 s .i64 k Tryz.underlying9, dif_pos (by omega)]
  simp
theorem all_at (s : ByteArray) (k : Nat) (h : k < s.size) : (s.data.toList.drop k).all okByte = (okByte s[k] && (s.data.toList.drop (k + 1)).all okByte) := by
  rw [List.drop_eq_getElem_cons (by simpa using h)]; rfl
set_option maxHeartbeats 1000000 in
theorem fileName_c (s : ByteArray) (w : World) :
    Calls Tryz.prog 51 #[.string s] w fun e w' => e = .returned (.bool (okName s)) ∧ w' = w := by
  by_cases h1 : 1 ≤ s.size
  · by_cases h2 : s.size ≤ 64
    · have b1 : decide ((s.size : Int) < 1) = false := by simp; omega
      have b2 : decide ((64 : Int) < (s.size : Int)) = false := by simp; omega
      go_enter Tryz.func51, Tryz.ntmps51
      go_wp2
      go_loop [3] (fun i => ∃ k : Nat, i = .int .i64 k ∧ k ≤ s.size ∧ okName s = (s.data.toList.drop k).all okByte) (fun i => s.size - (intOf i).toNat)
      case atStart => exact ⟨0, rfl, Nat.zero_le _, by unfold okName; simp [h1, h2]⟩
      case round =>
        obtain ⟨k, rfl, hks, hE⟩ := hrel
        by_cases hk : k < s.size
        · have hidx := idx s k hk
          have b3 : decide ((k : Int) < (s.size : Int)) = true := by simp; omega
          rw [all_at s k hk] at hE
          obtain ⟨c, hc⟩ : ∃ c, c = s[k] := ⟨_, rfl⟩
          rw [← hc] at hidx hE
          have HE : Hid (okName s = (okByte c && (s.data.toList.drop (k + 1)).all okByte)) := hE
          clear hc hE
          by_cases c1 : c = 47
          · have b4 : ((c.toNat : Int) == 47) = true := by rw [c1]; rfl
            have HR : Hid (okName s = false) := by show _ = _; rw [HE.out, c1]; rfl
            have HC : Hid (c = 47) := c1
            clear c1
            go_wp2
            go_ret
            exact ⟨by rw [HR.out]; rfl, rfl⟩
          · have b4 : ((c.toNat : Int) == 47) = false := by
              have : c.toNat ≠ 47 := fun h => c1 (UInt8.toNat_inj.1 h)
              simp; omega
            by_cases c2 : c = 0
            · have b5 : ((c.toNat : Int) == 0) = true := by rw [c2]; rfl
              have HR : Hid (okName s = false) := by show _ = _; rw [HE.out, c2]; rfl
              have HC : Hid (c = 0) := c2
              clear c2
              go_wp2
              go_ret
              exact ⟨by rw [HR.out]; rfl, rfl⟩
            · have b5 : ((c.toNat : Int) == 0) = false := by
                have : c.toNat ≠ 0 := fun h => c2 (UInt8.toNat_inj.1 h)
                simp; omega
              have HR : Hid (okName s = (s.data.toList.drop (k + 1)).all okByte) := by show _ = _; rw [HE.out]; simp [okByte, c1, c2]
              go_wp2
              exact ⟨⟨k + 1, rfl, by omega, HR.out⟩, by simp [intOf]; omega⟩
        · obtain rfl : k = s.size := by omega
          have b3 : decide ((s.size : Int) < (s.size : Int)) = false := by simp
          have HR : Hid (okName s = true) := by
            show _ = _
            rw [hE, show s.data.toList.drop s.size = [] from List.drop_eq_nil_of_le (by simp)]; rfl
          clear hE
          go_wp2
          go_ret
          exact ⟨by rw [HR.out]; rfl, rfl⟩
    · have b1 : decide ((s.size : Int) < 1) = false := by simp; omega
      have b2 : decide ((64 : Int) < (s.size : Int)) = true := by simp; omega
      have HR : Hid (okName s = false) := by show _ = _; unfold okName; simp [h2]
      clear h1 h2
      go_enter Tryz.func51, Tryz.ntmps51
      go_wp2
      go_ret
      exact ⟨by rw [HR.out]; rfl, rfl⟩
  · have b1 : decide ((s.size : Int) < 1) = true := by simp; omega
    have HR : Hid (okName s = false) := by show _ = _; unfold okName; simp [h1]
    clear h1
    go_enter Tryz.func51, Tryz.ntmps51
    go_wp2
    go_ret
    exact ⟨by rw [HR.out]; rfl, rfl⟩
theorem RefAt.same {F : Nat → Prop} {p : Nat} {st : St} {bv dv : Value} {dvs : List Value} {w w' : World} (h : RefAt F p st bv dv dvs w) (hk : ∀ k, F k → k < w.heap.size → w'.heap[k]? = w.heap[k]?) : RefAt F p st bv dv dvs w' where
  fp := h.fp
  blk := by rw [hk p h.fp (Array.getElem?_eq_some_iff.1 h.blk).1]; exact h.blk
  bod := own_keep h.bod fun k e => hk k (h.bodF k e) (h.bod.lt k e).2
  bodF := h.bodF
  drs := own_keep h.drs fun k e => hk k (h.drsF k e) (h.drs.lt k e).2
  drsF := h.drsF
  ent := fun i d hi => by
    obtain ⟨v, h1, h2, h3⟩ := h.ent i d hi
    exact ⟨v, h1, own_keep h2 fun k e => hk k (h3 k e) (World.ownsRow.lt h2 k e).2, h3⟩
theorem RefAt.below {F : Nat → Prop} {p : Nat} {st : St} {bv dv : Value} {dvs : List Value} {w w' : World} (h : RefAt F p st bv dv dvs w) (hb : Below w.heap.size w w') : RefAt F p st bv dv dvs w' :=
  h.same fun k _ hk => hb.block k hk
theorem step_append_at {P : Program} {ops : Array Oper} {o : Oper} {a : Act} {w : World} {K : Act → World → Prop} {Q : Exit → Act → World → Prop} {E : Prop}
    (hg : o.guard = none) (s x : Operand) (t : TypeId) (hop : o.op = Op.call { callee := Callee.builtin Builtin.append, args := #[s, x], argTypes := #[t, t] })
    (base : Nat) (e : TypeId) (i : TypeInfo) (z : Value) (size bytes : Nat) (h1 : P.underlying t = some (.slice e)) (h2 : P.info? e = some i) (h3 : i.zero = some z) (h4 : i.size = size) (h5 : i.bytes = bytes) (h6 : z.cells.size = size) (h7 : 0 < size)
    (v : Value) (n : Nat) (xs : List Value) (hs : a.eval s = v) (hown : w.ownsRow base e size v n xs)
    (ad : Addr) (m c : Nat) (news : List Value) (hx : a.eval x = .slice (some ad) m c) (hn : news.length = m * size) (hc : ∀ j u, news[j]? = some u → w.cell? (ad.add j) = some u) (h1c : ∀ u ∈ news, u.oneCell' = true)
    (b1 : n + m ≤ maxLen) (b2 : (n + m) * bytes ≤ 140737488355328) (hB : base ≤ w.heap.size)
    (hK : ∀ v' w', w'.ownsRow base e size v' (n + m) (xs ++ news) → w.grownBy w' v.ownBlock → (v'.ownBlock = v.ownBlock ∨ v'.ownBlock = some w.heap.size) → K (a.put o.dst v') w') :
    if Region.wanted o (yielded ops a.tmps) = true then Oper.wp P o a w K Q else E := by
  have hw : Region.wanted o (yielded ops a.tmps) = true := by simp [Region.wanted, hg]
  rw [if_pos hw]
  obtain ⟨v', w', hrun, r1, r2, _, r3⟩ := run_append_own_at (P := P) w base t o.type e i z size bytes h1 h2 h3 h4 h5 h6 h7 v n xs hown ad m c news hn hc h1c b1 b2 hB
  unfold Oper.wp
  simp [execOp, hop, resolve, invoke, builtin, hs, hx, hrun, Result.andThen]
  exact hK v' w' r1 r2 r3
theorem infoDir : (Tryz.prog.info? 105).map (fun i => (i.zero, i.size, i.bytes)) = some (some (.agg #[.slice none 0 0]), 1, 24) := by kernel_rfl
theorem infoBody : (Tryz.prog.info? 141).map (fun i => (i.zero, i.size, i.bytes)) = some (some (.agg #[.int .i64 0, .int .i64 0, .int .i64 0, .int .i64 0, .string ⟨#[]⟩, .int .i64 0]), 6, 56) := by kernel_rfl
/-- A change more: what the memory is behind it. -/
theorem RefAt.changed {F : Nat → Prop} {p : Nat} {st : St} {bv dv : Value} {dvs : List Value} {w w2 : World} {o o' : Obj} {v v' : Value} {d : Dr} (h : RefAt F p st bv dv dvs w) (hd : DirO w 0 v d) (hdF : ∀ k, v.ownBlock = some k → F k)
    (hown : w2.ownsRow 0 105 1 v' (st.dirs.length + 1) (dvs ++ [v])) (hg : ((w.alloc o).alloc o').grownBy w2 dv.ownBlock) (hv' : v'.ownBlock = dv.ownBlock ∨ v'.ownBlock = some ((w.alloc o).alloc o').heap.size) :
    RefAt (ext F w (w2.setCell ⟨p, 2, none⟩ v')) p { st with dirs := st.dirs ++ [d] } bv v' (dvs ++ [v]) (w2.setCell ⟨p, 2, none⟩ v') ∧ Kp F w (w2.setCell ⟨p, 2, none⟩ v') := by
  have hp := (Array.getElem?_eq_some_iff.1 h.blk).1
  have hsz : w.heap.size + 2 ≤ w2.heap.size := by have := hg.size; simpa using this
  have hss : (w2.setCell ⟨p, 2, none⟩ v').heap.size = w2.heap.size := by simp [World.setCell]
  have old : ∀ k, k < w.heap.size → some k ≠ dv.ownBlock → w2.heap[k]? = w.heap[k]? := fun k hk hn => by
    rw [hg.block k (by simp; omega) hn, Lib.alloc_old _ _ k (by simp; omega), Lib.alloc_old _ _ k hk]
  have hpd : some p ≠ dv.ownBlock := fun e => by
    obtain ⟨cur, hc⟩ := own_typed h.drs e.symm
    exact typed_ne h.blk hc (by decide) rfl
  have set : ∀ k, k ≠ p → (w2.setCell ⟨p, 2, none⟩ v').heap[k]? = w2.heap[k]? := fun k hk => Below.heap_setCell _ _ _ _ hk
  have keep : ∀ k, k < w.heap.size → k ≠ p → some k ≠ dv.ownBlock → (w2.setCell ⟨p, 2, none⟩ v').heap[k]? = w.heap[k]? := fun k h1 h2 h3 => (set k h2).trans (old k h1 h3)
  have b2 : w2.heap[p]? = some (.cells #[.int .i64 st.cap, bv, dv] 109 (0, 0)) := (old p hp hpd).trans h.blk
  have keepO : ∀ {B n e size u xs}, w.ownsRow B e size u n xs → e ≠ 109 → e ≠ 105 → ∀ k, u.ownBlock = some k → (w2.setCell ⟨p, 2, none⟩ v').heap[k]? = w.heap[k]? := by
    intro B n e size u xs ho n1 n2 k hk
    obtain ⟨cur, hc⟩ := own_typed ho hk
    refine keep k (ho.lt k hk).2 (fun e' => ?_) (fun e' => ?_)
    · exact typed_ne hc h.blk n1 e'
    · obtain ⟨cur', hc'⟩ := own_typed h.drs e'.symm
      exact typed_ne hc hc' n2 rfl
  refine ⟨⟨.inl h.fp, ?_, own_keep h.bod (keepO h.bod (by decide) (by decide)), fun k e => .inl (h.bodF k e), ?_, ?_, ?_⟩, ?_⟩
  · rw [blk_set b2]; rfl
  · rw [List.length_append]
    refine own_keep hown fun k hk => set k fun e => ?_
    obtain ⟨cur, hc⟩ := own_typed hown hk
    exact typed_ne hc b2 (by decide) e
  · intro k hk
    rcases hv' with h' | h'
    · exact .inl (h.drsF k (h' ▸ hk))
    · refine .inr ⟨?_, by rw [hss]; exact (hown.lt k hk).2⟩
      rw [h'] at hk; cases hk; simp; omega
  · intro i d' hi
    have key : ∀ u d'', DirO w 0 u d'' → (∀ k, u.ownBlock = some k → F k) → DirO (w2.setCell ⟨p, 2, none⟩ v') 0 u d'' ∧ ∀ k, u.ownBlock = some k → ext F w (w2.setCell ⟨p, 2, none⟩ v') k :=
      fun u d'' h1 h2 => ⟨own_keep h1 (keepO h1 (by decide) (by decide)), fun k e => .inl (h2 k e)⟩
    have hl : dvs.length = st.dirs.length := by have := h.drs.1; omega
    rcases Nat.lt_or_ge i st.dirs.length with h' | h'
    · rw [List.getElem?_append_left h'] at hi
      obtain ⟨u, h1, h2, h3⟩ := h.ent i d' hi
      exact ⟨u, by rw [List.getElem?_append_left (by omega)]; exact h1, key u d' h2 h3⟩
    · rw [List.getElem?_append_right h'] at hi
      have h0 : i - st.dirs.length = 0 := by
        rcases Nat.eq_zero_or_pos (i - st.dirs.length) with h0 | h0
        · exact h0
        · rw [List.getElem?_eq_none (by simp; omega)] at hi; cases hi
      rw [h0] at hi; simp at hi; subst hi
      refine ⟨v, ?_, key v d hd hdF⟩
      rw [List.getElem?_append_right (by omega), show i - dvs.length = 0 by omega]; rfl
  · refine ⟨hg.os, hg.tape, hg.output, by rw [hss]; omega, fun k hk hF => keep k hk (fun e => hF (e ▸ h.fp)) (fun e => hF (h.drsF k e.symm))⟩
set_option maxHeartbeats 1000000 in
theorem change_c (F : Nat → Prop) (p : Nat) (st : St) (bv dv : Value) (dvs : List Value) (v : Value) (d : Dr) (w : World) (h : RefAt F p st bv dv dvs w) (hw : st.dirs.length ≤ 2097152) (hd : DirO w 0 v d) (hdF : ∀ k, v.ownBlock = some k → F k) :
    Calls Tryz.prog 82 #[.pointer (some ⟨p, 0, none⟩), .agg #[v]] w fun e w' => e = .returned (.tuple #[]) ∧ ∃ dv', RefAt (ext F w w') p { st with dirs := st.dirs ++ [d] } bv dv' (dvs ++ [v]) w' ∧ Kp F w w' := by
  obtain ⟨i0, hi, hz0, hz1, hz2⟩ := info_parts infoDir
  have hlt : p < w.heap.size := (Array.getElem?_eq_some_iff.1 h.blk).1
  have c2 : w.cell? ⟨p, 2, none⟩ = some dv := by rw [Lib.cell_of_heap h.blk]; rfl
  have HH : Hid (RefAt F p st bv dv dvs w) := h
  have HL : Hid (st.dirs.length ≤ 2097152) := hw
  have HD : Hid (DirO w 0 v d ∧ ∀ k, v.ownBlock = some k → F k) := ⟨hd, hdF⟩
  obtain ⟨ao, cp, rfl⟩ := own_shape hd
  obtain ⟨ql, hql⟩ : ∃ l, l = d.length := ⟨_, rfl⟩
  rw [← hql] at HD ⊢
  have hpd : some p ≠ dv.ownBlock := fun e => by
    obtain ⟨cur, hc⟩ := own_typed h.drs e.symm
    exact typed_ne h.blk hc (by decide) rfl
  have HP : Hid (some p ≠ dv.ownBlock) := hpd
  clear h hw hd hdF hql hpd
  go_enter Tryz.func82, Tryz.ntmps82
  go_wp2
  go_region_law (refine step_append_at rfl (.tmp 8) (.tmp 10) 106 rfl 0 105 i0 (.agg #[.slice none 0 0]) 1 24 Tryz.underlying106 hi hz0 hz1 hz2 rfl (by decide) dv st.dirs.length dvs (by simp [Act.eval]) (by exact (HH.out.drs.alloc _).alloc _) ⟨w.heap.size + 1, 0, none⟩ 1 1 [.slice ao ql cp] (by simp [Act.eval]) rfl (one_new _ _ _ (by simp)) (by intro u hu; simp at hu; subst hu; rfl) (by have := HL.out; unfold maxLen; omega) (by have := HL.out; omega) (Nat.zero_le _) ?_; intro v' w2 hown' hgrow hwh; obtain ⟨ao2, cap2, rfl⟩ := own_shape hown'; have hb2 : w2.heap[p]? = some (.cells #[.int .i64 st.cap, bv, dv] 109 (0, 0)) := ((hgrow.block p (by simp; omega) HP.out).trans ((Lib.alloc_old _ _ p (by simp; omega)).trans (Lib.alloc_old w _ p hlt))).trans HH.out.blk; have d2 : w2.cell? ⟨p, 2, none⟩ = some dv := (by rw [Lib.cell_of_heap hb2]; rfl); have f2 := Lib.frozen_of_heap hb2 2)
  all_goals
    go_wp2
    go_end0
    have R := RefAt.changed (o := .cells #[.slice ao ql cp] 105) (o' := .cells #[.slice ao ql cp] 105) HH.out HD.out.1 HD.out.2 hown' ⟨hgrow.os, hgrow.tape, hgrow.output, hgrow.size, hgrow.block⟩ hwh
    exact ⟨rfl, _, R⟩
end Go.Proofs.YtofmiaaglbcebaaGreatDoor

-- The document's calls that change a volume.
namespace Go.Proofs.YtofmiaaglbcebaaGreatDoor
open Go.RowKit
set_option linter.unusedVariables false
theorem RefAt.mono {F G : Nat → Prop} {p : Nat} {st : St} {bv dv : Value} {dvs : List Value} {w : World} (h : RefAt F p st bv dv dvs w) (hs : ∀ k, F k → G k) : RefAt G p st bv dv dvs w where
  fp := hs p h.fp
  blk := h.blk
  bod := h.bod
  bodF := fun k e => hs k (h.bodF k e)
  drs := h.drs
  drsF := fun k e => hs k (h.drsF k e)
  ent := fun i d hi => by
    obtain ⟨v, h1, h2, h3⟩ := h.ent i d hi
    exact ⟨v, h1, h2, fun k e => hs k (h3 k e)⟩
def RefSt (F : Nat → Prop) (p : Nat) (st : St) (w : World) : Prop := ∃ bv dv dvs, RefAt F p st bv dv dvs w
/-- What a call on the volume has done. -/
def Did (F : Nat → Prop) (p : Nat) (st : St) (w w' : World) : Prop := RefSt (ext F w w') p st w' ∧ Kp F w w'
theorem Did.then {F : Nat → Prop} {p : Nat} {st st' : St} {a b c : World} (h : Did F p st a b) (k : Did (ext F a b) p st' b c) : Did F p st' a c := by
  obtain ⟨⟨bv, dv, dvs, r⟩, k2⟩ := k
  have s1 := h.2.size
  have s2 := k2.size
  refine ⟨⟨bv, dv, dvs, r.mono fun k hk => ?_⟩, h.2.then k2⟩
  rcases hk with (hk | hk) | hk
  · exact .inl hk
  · exact .inr ⟨hk.1, by omega⟩
  · exact .inr ⟨by omega, hk.2⟩
/-- Nothing but new blocks ahead of a call. -/
theorem Did.after {F : Nat → Prop} {p : Nat} {st' : St} {a b c : World} (h : Below a.heap.size a b) (k : Did F p st' b c) : Did F p st' a c := by
  obtain ⟨⟨bv, dv, dvs, r⟩, k2⟩ := k
  have s1 := h.size
  have s2 := k2.size
  refine ⟨⟨bv, dv, dvs, r.mono fun k hk => ?_⟩, ⟨k2.os.trans h.os, k2.tape.trans h.tape, k2.output.trans h.output, Nat.le_trans s1 s2, fun i hi hF => (k2.block i (by omega) hF).trans (h.block i hi)⟩⟩
  rcases hk with hk | hk
  · exact .inl hk
  · exact .inr ⟨by omega, hk.2⟩
theorem Did.of_below {F : Nat → Prop} {p : Nat} {st : St} {bv dv : Value} {dvs : List Value} {w w' : World} (h : RefAt F p st bv dv dvs w) (hb : Below w.heap.size w w') : Did F p st w w' :=
  ⟨⟨bv, dv, dvs, (h.below hb).mono fun k hk => .inl hk⟩, Kp.of_below hb⟩
theorem RefAt.bodied {F : Nat → Prop} {p : Nat} {st : St} {bv dv : Value} {dvs : List Value} {w w2 : World} {o' : Obj} {v' : Value} {b : Bd} (h : RefAt F p st bv dv dvs w)
    (hown : w2.ownsRow 0 141 6 v' (st.bodies.length + 1) (bodV st.bodies ++ [.int .i64 b.date, .int .i64 b.uid, .int .i64 b.gid, .int .i64 b.mode, .string b.data, .int .i64 b.safe]))
    (hg : (w.alloc o').grownBy w2 bv.ownBlock) (hv' : v'.ownBlock = bv.ownBlock ∨ v'.ownBlock = some (w.alloc o').heap.size) :
    RefAt (ext F w (w2.setCell ⟨p, 1, none⟩ v')) p { st with bodies := st.bodies ++ [b] } v' dv dvs (w2.setCell ⟨p, 1, none⟩ v') ∧ Kp F w (w2.setCell ⟨p, 1, none⟩ v') := by
  have hp := (Array.getElem?_eq_some_iff.1 h.blk).1
  have hsz : w.heap.size + 1 ≤ w2.heap.size := by have := hg.size; simpa using this
  have hss : (w2.setCell ⟨p, 1, none⟩ v').heap.size = w2.heap.size := by simp [World.setCell]
  have old : ∀ k, k < w.heap.size → some k ≠ bv.ownBlock → w2.heap[k]? = w.heap[k]? := fun k hk hn => by
    rw [hg.block k (by simp; omega) hn, Lib.alloc_old _ _ k hk]
  have hpd : some p ≠ bv.ownBlock := fun e => by
    obtain ⟨cur, hc⟩ := own_typed h.bod e.symm
    exact typed_ne h.blk hc (by decide) rfl
  have set : ∀ k, k ≠ p → (w2.setCell ⟨p, 1, none⟩ v').heap[k]? = w2.heap[k]? := fun k hk => Below.heap_setCell _ _ _ _ hk
  have keep : ∀ k, k < w.heap.size → k ≠ p → some k ≠ bv.ownBlock → (w2.setCell ⟨p, 1, none⟩ v').heap[k]? = w.heap[k]? := fun k h1 h2 h3 => (set k h2).trans (old k h1 h3)
  have b2 : w2.heap[p]? = some (.cells #[.int .i64 st.cap, bv, dv] 109 (0, 0)) := (old p hp hpd).trans h.blk
  have keepO : ∀ {B n e size u xs}, w.ownsRow B e size u n xs → e ≠ 109 → e ≠ 141 → ∀ k, u.ownBlock = some k → (w2.setCell ⟨p, 1, none⟩ v').heap[k]? = w.heap[k]? := by
    intro B n e size u xs ho n1 n2 k hk
    obtain ⟨cur, hc⟩ := own_typed ho hk
    refine keep k (ho.lt k hk).2 (fun e' => ?_) (fun e' => ?_)
    · exact typed_ne hc h.blk n1 e'
    · obtain ⟨cur', hc'⟩ := own_typed h.bod e'.symm
      exact typed_ne hc hc' n2 rfl
  refine ⟨⟨.inl h.fp, ?_, ?_, ?_, own_keep h.drs (keepO h.drs (by decide) (by decide)), fun k e => .inl (h.drsF k e), ?_⟩, ?_⟩
  · rw [blk_set b2]; rfl
  · have e1 : bodV (st.bodies ++ [b]) = bodV st.bodies ++ [.int .i64 b.date, .int .i64 b.uid, .int .i64 b.gid, .int .i64 b.mode, .string b.data, .int .i64 b.safe] := by simp [bodV]
    rw [List.length_append, e1]
    refine own_keep hown fun k hk => set k fun e => ?_
    obtain ⟨cur, hc⟩ := own_typed hown hk
    exact typed_ne hc b2 (by decide) e
  · intro k hk
    rcases hv' with h' | h'
    · exact .inl (h.bodF k (h' ▸ hk))
    · refine .inr ⟨?_, by rw [hss]; exact (hown.lt k hk).2⟩
      rw [h'] at hk; cases hk; simp
  · intro i d' hi
    obtain ⟨u, h1, h2, h3⟩ := h.ent i d' hi
    exact ⟨u, h1, own_keep h2 (keepO h2 (by decide) (by decide)), fun k e => .inl (h3 k e)⟩
  · refine ⟨hg.os, hg.tape, hg.output, by rw [hss]; omega, fun k hk hF => keep k hk (fun e => hF (e ▸ h.fp)) (fun e => hF (h.bodF k e.symm))⟩
theorem six_new (w : World) (a b c d e f : Value) (t : TypeId) {n : Nat} (hn : w.heap.size = n) : ∀ j u, [a, b, c, d, e, f][j]? = some u → (w.alloc (.cells #[a, b, c, d, e, f] t)).cell? ((⟨n, 0, none⟩ : Addr).add j) = some u := by
  intro j u hj
  subst hn
  match j, hj with
  | 0, hj => simp at hj; subst hj; simp [Addr.add]
  | 1, hj => simp at hj; subst hj; simp [Addr.add]
  | 2, hj => simp at hj; subst hj; simp [Addr.add]
  | 3, hj => simp at hj; subst hj; simp [Addr.add]
  | 4, hj => simp at hj; subst hj; simp [Addr.add]
  | 5, hj => simp at hj; subst hj; simp [Addr.add]
set_option maxHeartbeats 2000000 in
theorem create_c (F : Nat → Prop) (p : Nat) (st : St) (name : ByteArray) (m0 m1 m2 m3 : Int) (w : World) (h : RefSt F p st w) (hw : Wf st) :
    Calls Tryz.prog 64 #[.pointer (some ⟨p, 0, none⟩), .string name, .agg #[.int .i64 m0, .int .i64 m1, .int .i64 m2, .int .i64 m3]] w fun e w' =>
      e = .returned (.tuple #[.int .i64 (st.create name m0 m1 m2 m3).1.1, .int .i64 (st.create name m0 m1 m2 m3).1.2]) ∧ Did F p (st.create name m0 m1 m2 m3).2 w w' := by
  obtain ⟨bv, dv, dvs, h⟩ := h
  obtain ⟨i0, hi, hz0, hz1, hz2⟩ := info_parts infoBody
  have HH : Hid (RefAt F p st bv dv dvs w) := h
  have HF : Hid (∀ w, Calls Tryz.prog 51 #[.string name] w fun e w' => e = .returned (.bool (okName name)) ∧ w' = w) := fun w => fileName_c name w
  have hbm : Below w.heap.size w (w.alloc (.cells #[.int .i64 m0, .int .i64 m1, .int .i64 m2, .int .i64 m3] 30)) := (Below.refl _ w).alloc (Nat.le_refl _) _
  rcases hok : okName name with _ | _
  · rw [hok] at HF
    have HC : Hid (st.create name m0 m1 m2 m3 = ((0, 32), st)) := by show _ = _; unfold St.create; rw [if_pos hok]
    clear h hw hok
    go_enter Tryz.func64, Tryz.ntmps64
    go_wp2_with (go_at_call 51; refine (HF.out _).mono ?_; rintro e w1 ⟨rfl, hw1⟩; subst w1)
    go_ret2
    rw [HC.out]
    exact ⟨rfl, Did.of_below HH.out hbm⟩
  · rw [hok] at HF
    have hnl := now_len hw
    obtain ⟨q, hq⟩ : ∃ q, q = st.now := ⟨_, rfl⟩
    have HQ : Hid (q = st.now) := hq
    rw [← hq] at hnl
    obtain ⟨ql, hql⟩ : ∃ l, l = q.length := ⟨_, rfl⟩
    have HQL : Hid (ql = q.length) := hql
    rw [← hql] at hnl
    have HN : Hid (∀ wx, Below w.heap.size w wx → Calls Tryz.prog 78 #[.pointer (some ⟨p, 0, none⟩)] wx fun e w' => (∃ ao cp, e = .returned (.agg #[.slice ao ql cp]) ∧ DirO w' 0 (.slice ao ql cp) q ∧ ∀ k, (Value.slice ao ql cp).ownBlock = some k → F k) ∧ Below wx.heap.size wx w') := fun wx hb => (now_c F p st bv dv dvs wx (h.below hb) hw).mono (by
      rintro e w' ⟨⟨v, rfl, hd, hF⟩, hb'⟩
      rw [← hq] at hd
      obtain ⟨ao, cp, rfl⟩ := own_shape hd
      rw [← hql] at hd hF ⊢
      exact ⟨⟨ao, cp, rfl, dir_below hd hb', hF⟩, hb'⟩)
    have HLD : Hid (∀ v wx, DirO wx 0 v q → Calls Tryz.prog 79 #[.agg #[v], .string name] wx fun e w' => e = .returned (.int .i64 (leads q name)) ∧ Below wx.heap.size wx w') := fun v wx hd => leads_c v q name wx hd.dirV (by omega)
    obtain ⟨l0, hl0⟩ : ∃ l, l = leads q name := ⟨_, rfl⟩
    rw [← hl0] at HLD
    have HL0 : Hid (l0 = leads q name) := hl0
    clear hl0 hq
    by_cases hfull : l0 = 0 ∧ 64 ≤ ql
    · have HC : Hid (st.create name m0 m1 m2 m3 = ((0, 33), st)) := by
        show _ = _
        unfold St.create
        rw [if_neg (by rw [hok]; decide), if_pos (by rw [← HQ.out, ← HL0.out, ← HQL.out]; exact hfull)]
      obtain ⟨rfl, h64⟩ := hfull
      have b1 : decide ((64 : Int) ≤ (ql : Int)) = true := by simp; omega
      clear h hw hok hql
      go_enter Tryz.func64, Tryz.ntmps64
      go_wp2_with (first
        | (go_at_call 51; refine (HF.out _).mono ?_; rintro e w1 ⟨rfl, hw1⟩; subst w1)
        | (go_at_call 78; refine (HN.out _ hbm).mono ?_; rintro e w1 ⟨⟨ao, cp, rfl, hd, hvF⟩, hb1⟩; have hb1' := hbm.trans (hb1.mono (by simp)))
        | (go_at_call 79; refine (HLD.out _ _ (World.ownsRow.alloc hd _)).mono ?_; rintro e w2 ⟨rfl, hb2⟩; have hs1 := hb1'.size; have hb2' := (hb1'.alloc hs1 (.cells #[.slice ao ql cp] 105)).trans (hb2.mono (by simp; omega)); have c9 := cell_below hb2 (show (w1.alloc (.cells #[.slice ao ql cp] 105)).cell? ⟨w1.heap.size, 0, none⟩ = some (.slice ao ql cp) by simp)))
      go_ret2
      rw [HC.out]
      exact ⟨rfl, Did.of_below HH.out hb2'⟩
    · have HC : Hid (st.create name m0 m1 m2 m3 = ((st.bodies.length + 1, 0), { st with bodies := st.bodies ++ [⟨m0, m1, m2, m3, ⟨#[]⟩, 0⟩], dirs := st.dirs ++ [with_ q name (st.bodies.length + 1)] })) := by
        show _ = _
        unfold St.create
        rw [if_neg (by rw [hok]; decide), if_neg (by rw [← HQ.out, ← HL0.out, ← HQL.out]; exact hfull), HQ.out]
      have hcl := hw.many
      obtain ⟨nb, hnb⟩ : ∃ n, n = st.bodies.length := ⟨_, rfl⟩
      have HNB : Hid (nb = st.bodies.length) := hnb
      rw [← hnb] at hcl
      have b1 : (((l0 : Int) == 0) = true ∧ decide ((64 : Int) ≤ (ql : Int)) = false) ∨ ((l0 : Int) == 0) = false := by
        by_cases h0 : l0 = 0
        · left; refine ⟨by simp [h0], ?_⟩; simp; omega
        · right; simp; omega
      have HWI : Hid (∀ v wx, DirO wx 0 v q → Calls Tryz.prog 81 #[.agg #[v], .string name, .int .i64 ((nb : Int) + 1)] wx fun e w' => (∃ v', e = .returned (.agg #[v']) ∧ DirO w' wx.heap.size v' (with_ q name (nb + 1))) ∧ Below wx.heap.size wx w') := fun v wx hd => with_c v q name (nb + 1) wx hd.dirV (by omega)
      have HWF : Hid (Wf st) := hw
      clear h hw hok hql hnb hfull
      rcases b1 with ⟨b1, b2⟩ | b1
      all_goals
        go_enter Tryz.func64, Tryz.ntmps64
        go_wp2_with (first
          | (go_at_call 51; refine (HF.out _).mono ?_; rintro e w1 ⟨rfl, hw1⟩; subst w1)
          | (go_at_call 78; refine (HN.out _ hbm).mono ?_; rintro e w1 ⟨⟨ao, cp, rfl, hd, hvF⟩, hb1⟩; have hb1' := hbm.trans (hb1.mono (by simp)))
          | (go_at_call 79; refine (HLD.out _ _ (World.ownsRow.alloc hd _)).mono ?_; rintro e w2 ⟨rfl, hb2⟩; have hs1 := hb1'.size; have hb2' := (hb1'.alloc hs1 (.cells #[.slice ao ql cp] 105)).trans (hb2.mono (by simp; omega)); have c9 := cell_below hb2 (show (w1.alloc (.cells #[.slice ao ql cp] 105)).cell? ⟨w1.heap.size, 0, none⟩ = some (.slice ao ql cp) by simp)))
      all_goals
        have h2 := HH.out.below hb2'
        have hbk : w2.heap[w.heap.size]? = some (.cells #[.int .i64 m0, .int .i64 m1, .int .i64 m2, .int .i64 m3] 30) := by
          rw [hb2.block w.heap.size (by simp; have := hb1.size; simp at this; omega), Lib.alloc_old _ _ w.heap.size (by have := hb1.size; simp at this; omega), hb1.block w.heap.size (by simp), heap_alloc_new]
        have hd2 : DirO w2 0 (.slice ao ql cp) q := dir_below (World.ownsRow.alloc hd _) hb2
        have hb9 : w2.heap[w1.heap.size]? = some (.cells #[.slice ao ql cp] 105) := by
          rw [hb2.block w1.heap.size (by simp), heap_alloc_new]
        have hs2 : w1.heap.size + 1 ≤ w2.heap.size := by have := hb2.size; simpa using this
        have hs0 : w.heap.size + 1 ≤ w1.heap.size := by have := hb1.size; simpa using this
        have e0 : w2.cell? ⟨w.heap.size, 0, none⟩ = some (.int .i64 m0) := by rw [Lib.cell_of_heap hbk]; rfl
        have e1 : w2.cell? ⟨w.heap.size, 1, none⟩ = some (.int .i64 m1) := by rw [Lib.cell_of_heap hbk]; rfl
        have e2 : w2.cell? ⟨w.heap.size, 2, none⟩ = some (.int .i64 m2) := by rw [Lib.cell_of_heap hbk]; rfl
        have e3 : w2.cell? ⟨w.heap.size, 3, none⟩ = some (.int .i64 m3) := by rw [Lib.cell_of_heap hbk]; rfl
        have c1 : w2.cell? ⟨p, 1, none⟩ = some bv := by rw [Lib.cell_of_heap h2.blk]; rfl
        have hlt : p < w2.heap.size := (Array.getElem?_eq_some_iff.1 h2.blk).1
        have HP : Hid (some p ≠ bv.ownBlock) := fun e => by
          obtain ⟨cur, hc⟩ := own_typed h2.bod e.symm
          exact typed_ne h2.blk hc (by decide) rfl
        have H2 : Hid (RefAt F p st bv dv dvs w2) := h2
        have hown2 := h2.bod
        rw [← HNB.out] at hown2
        have HO : Hid (w2.ownsRow 0 141 6 bv nb (bodV st.bodies)) := hown2
        have HVF : Hid (∀ k, (Value.slice ao ql cp).ownBlock = some k → F k) := hvF
        have H9 : Hid (w2.heap[w1.heap.size]? = some (.cells #[.slice ao ql cp] 105)) := hb9
        have HD2 : Hid (DirO w2 0 (.slice ao ql cp) q) := hd2
        have HBB : Hid (Below w.heap.size w w2) := hb2'
        clear h2 hbk hown2 hvF hb9 hd2 hd hb1 hb2 hb1' hb2' hbm c9
        go_region_law (refine step_append_at rfl (.tmp 34) (.tmp 37) 107 rfl 0 141 i0 (.agg #[.int .i64 0, .int .i64 0, .int .i64 0, .int .i64 0, .string ⟨#[]⟩, .int .i64 0]) 6 56 Tryz.underlying107 hi hz0 hz1 hz2 rfl (by decide) bv nb (bodV st.bodies) (by simp [Act.eval]) (by exact HO.out.alloc _) ⟨w2.heap.size, 0, none⟩ 1 1 [.int .i64 m0, .int .i64 m1, .int .i64 m2, .int .i64 m3, .string ⟨#[]⟩, .int .i64 0] (by simp [Act.eval]) rfl (six_new _ _ _ _ _ _ _ _ rfl) (by intro u hu; simp at hu; rcases hu with rfl | rfl | rfl | rfl | rfl | rfl <;> rfl) (by unfold maxLen; omega) (by omega) (Nat.zero_le _) ?_; intro v' w3 hown' hgrow hwh; obtain ⟨ao2, cap2, rfl⟩ := own_shape hown'; have hb2 : w3.heap[p]? = some (.cells #[.int .i64 st.cap, bv, dv] 109 (0, 0)) := ((hgrow.block p (by simp; omega) HP.out).trans (Lib.alloc_old _ _ p hlt)).trans H2.out.blk; have d1 : w3.cell? ⟨p, 1, none⟩ = some bv := (by rw [Lib.cell_of_heap hb2]; rfl); have f1 := Lib.frozen_of_heap hb2 1)
        all_goals
          have R := RefAt.bodied (b := ⟨m0, m1, m2, m3, ⟨#[]⟩, 0⟩) (o' := .cells #[.int .i64 m0, .int .i64 m1, .int .i64 m2, .int .i64 m3, .string ⟨#[]⟩, .int .i64 0] 141) H2.out (by rw [← HNB.out]; exact hown') ⟨hgrow.os, hgrow.tape, hgrow.output, hgrow.size, hgrow.block⟩ hwh
          have k1 : (w3.setCell ⟨p, 1, none⟩ (.slice ao2 (nb + 1) cap2)).cell? ⟨p, 1, none⟩ = some (.slice ao2 (nb + 1) cap2) := World.cell?_setCell_same _ _ _ d1
          have keepD : ∀ (k : Nat) (cur : Array Value) (t : TypeId), w2.heap[k]? = some (.cells cur t (0, 0)) → t ≠ 109 → t ≠ 141 → (w3.setCell ⟨p, 1, none⟩ (.slice ao2 (nb + 1) cap2)).heap[k]? = w2.heap[k]? := by
            intro k cur t hk n1 n2
            have hkl := (Array.getElem?_eq_some_iff.1 hk).1
            rw [Below.heap_setCell _ _ _ _ (fun e => typed_ne hk H2.out.blk n1 e)]
            rw [hgrow.block k (by simp; omega) (fun e => by
              obtain ⟨cur', hc'⟩ := own_typed H2.out.bod e.symm
              exact typed_ne hk hc' n2 rfl)]
            exact Lib.alloc_old _ _ k hkl
          have k9 : (w3.setCell ⟨p, 1, none⟩ (.slice ao2 (nb + 1) cap2)).cell? ⟨w1.heap.size, 0, none⟩ = some (.slice ao ql cp) := by
            rw [Lib.cell_of_heap ((keepD _ _ _ H9.out (by decide) (by decide)).trans H9.out)]; rfl
          have kd : DirO (w3.setCell ⟨p, 1, none⟩ (.slice ao2 (nb + 1) cap2)) 0 (.slice ao ql cp) q := own_keep HD2.out fun k hk => by
            obtain ⟨cur, hc⟩ := own_typed HD2.out hk
            exact keepD k cur _ hc (by decide) (by decide)
          obtain ⟨W3, hW3⟩ : ∃ W, W = w3.setCell ⟨p, 1, none⟩ (.slice ao2 (nb + 1) cap2) := ⟨_, rfl⟩
          rw [← hW3] at R k1 k9 kd ⊢
          clear hW3 keepD hgrow hown' hwh d1 f1 hb2
          have HR : Hid (RefAt (ext F w2 W3) p { st with bodies := st.bodies ++ [⟨m0, m1, m2, m3, ⟨#[]⟩, 0⟩] } (.slice ao2 (nb + 1) cap2) dv dvs W3 ∧ Kp F w2 W3) := R
          clear R
          go_wp2_with (go_at_call 81; refine (HWI.out _ _ kd).mono ?_; rintro e w4 ⟨⟨v4, rfl, hd4⟩, hb4⟩; obtain ⟨ao4, cp4, rfl⟩ := own_shape hd4)
          obtain ⟨r1, kp1⟩ := HR.out
          have hb5 : Below W3.heap.size W3 (w4.alloc (.cells #[.slice ao4 (with_ q name (nb + 1)).length cp4] 105)) := hb4.alloc hb4.size _
          have D1 : Did F p _ w2 W3 := ⟨⟨_, _, _, r1⟩, kp1⟩
          have D2 := Did.of_below r1 hb5
          have r5 := (r1.below hb5).mono (G := ext (ext F w2 W3) W3 (w4.alloc (.cells #[.slice ao4 (with_ q name (nb + 1)).length cp4] 105))) (fun k hk => .inl hk)
          have hd5 : DirO (w4.alloc (.cells #[.slice ao4 (with_ q name (nb + 1)).length cp4] 105)) W3.heap.size (.slice ao4 (with_ q name (nb + 1)).length cp4) (with_ q name (nb + 1)) := World.ownsRow.alloc hd4 _
          have hC := change_c _ p _ _ _ _ _ (with_ q name (nb + 1)) _ r5 HWF.out.long (own_mono hd5 (Nat.zero_le _)) (fun k hk => .inr (World.ownsRow.lt hd5 k hk))
          have HCC : Hid (Calls Tryz.prog 82 #[.pointer (some ⟨p, 0, none⟩), .agg #[.slice ao4 (with_ q name (nb + 1)).length cp4]] (w4.alloc (.cells #[.slice ao4 (with_ q name (nb + 1)).length cp4] 105)) fun e w' => e = .returned (.tuple #[]) ∧ Did F p (st.create name m0 m1 m2 m3).2 w w') := hC.mono (by
            rintro e w6 ⟨rfl, dv', rr, kk⟩
            refine ⟨rfl, Did.after HBB.out (D1.then (D2.then ?_))⟩
            rw [HC.out, ← HNB.out]
            exact ⟨⟨_, _, _, rr⟩, kk⟩)
          clear hC hd5 r5 D2 D1 hb5 r1 kp1 hd4 hb4 kd HR
          go_wp2_with (go_at_call 82; refine HCC.out.mono ?_; rintro e w6 ⟨rfl, hD⟩)
          go_ret2
          rw [HC.out] at hD ⊢
          rw [← HNB.out] at hD ⊢
          exact ⟨rfl, hD⟩
end Go.Proofs.YtofmiaaglbcebaaGreatDoor
