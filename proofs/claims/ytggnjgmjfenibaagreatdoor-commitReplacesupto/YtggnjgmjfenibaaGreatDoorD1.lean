
-- Rows of entries, and the directory's questions (the document's).
import Derived.Test.YtggnjgmjfenibaaGreatDoorM0
import Derived.Test.YtggnjgmjfenibaaGreatDoorRows
import Derived.WalkKit
import Derived.OwnWalk
import Derived.Deep.Draws
import Derived.Handy
import Derived.Lib.Builder
import Derived.Laws.Rows
namespace Go.Proofs.YtggnjgmjfenibaaGreatDoor
open Go.RowKit
set_option linter.unusedVariables false
/-- A slice of entries that reads as this directory. -/
def DirV (w : World) (v : Value) (d : Dr) : Prop :=
  (d = [] ∧ ∃ ao c, v = .slice ao 0 c) ∨ ∃ g cap, v = .slice (some ⟨g, 0, none⟩) d.length cap ∧ ∀ j, j < d.length → w.cell? ⟨g, j * 2, none⟩ = some (.string (d.getD j default).1) ∧ w.cell? ⟨g, j * 2 + 1, none⟩ = some (.int .i64 (d.getD j default).2)
set_option maxHeartbeats 1000000 in
theorem leads_c (v : Value) (d : Dr) (n : ByteArray) (w : World) (hd : DirV w v d) (hl : d.length ≤ 4194304) :
    Calls Tryz.prog 79 #[.agg #[v], .string n] w fun e w' => e = .returned (.int .i64 (leads d n)) ∧ Below w.heap.size w w' := by
  rcases hd with ⟨rfl, ao, c, rfl⟩ | ⟨g, cap, rfl, hc⟩
  · go_enter Tryz.func79, Tryz.ntmps79
    go_wp2
    refine wp_loop_rounds 1 ?_
    rw [rounds_succ]
    go_wp2
    go_ret
    exact ⟨rfl, (Below.refl _ w).alloc (Nat.le_refl _) _⟩
  · have HC : Hid (∀ j, j < d.length → w.cell? ⟨g, j * 2, none⟩ = some (.string (d.getD j default).1) ∧ w.cell? ⟨g, j * 2 + 1, none⟩ = some (.int .i64 (d.getD j default).2)) := hc
    obtain ⟨m, hm⟩ : ∃ m, m = d.length := ⟨_, rfl⟩
    have HM : Hid (m = d.length) := hm
    rw [← hm] at hl HC ⊢
    clear hm hc
    go_enter Tryz.func79, Tryz.ntmps79
    go_wp2
    go_loopw [5] (fun i wr => ∃ k : Nat, i = .int .i64 k ∧ k ≤ m ∧ (∀ j, j < k → ∀ e, d[j]? = some e → e.1 ≠ n) ∧ wr.cell? ⟨w.heap.size, 0, none⟩ = some (.slice (some ⟨g, 0, none⟩) m cap) ∧ Below w.heap.size w wr) (fun i _ => m - (intOf i).toNat)
    case atStart => exact ⟨0, rfl, Nat.zero_le _, fun j hj => by omega, by simp, (Below.refl _ w).alloc (Nat.le_refl _) _⟩
    case round =>
      obtain ⟨k, rfl, hkm, hno, hbx, hbw⟩ := hrel
      by_cases hk : k < m
      · have c0 := cell_below hbw (HC.out k hk).1
        have c1 := cell_below hbw (HC.out k hk).2
        have hge : d[k]? = some (d.getD k default) := getD_some d k (by rw [← HM.out]; exact hk)
        obtain ⟨x, y, hxy⟩ : ∃ x y, d.getD k default = (x, y) := ⟨_, _, rfl⟩
        rw [hxy] at c0 c1 hge
        have HG : Hid (d[k]? = some (x, y)) := hge
        have HNO : Hid (∀ j, j < k → ∀ e, d[j]? = some e → e.1 ≠ n) := hno
        clear hge hxy hno
        have b1 : decide ((k : Int) < (m : Int)) = true := by simp; omega
        by_cases hx : x = n
        · have b2 : (x.toList == n.toList) = true := by subst hx; simp
          have HR : Hid (leads d n = y) := by
            show _ = _
            rw [leads_take d n k HNO.out, leads_at d n k x y HG.out, if_pos hx]
          go_wp2
          go_ret
          exact ⟨by rw [HR.out]; rfl, hbw⟩
        · have b2 : (x.toList == n.toList) = false := by rw [beq_toList]; simp [hx]
          go_wp2
          exact ⟨⟨k + 1, rfl, by omega, fun j hj e he => by
            rcases Nat.lt_succ_iff_lt_or_eq.1 hj with h | h
            · exact HNO.out j h e he
            · subst h; rw [HG.out] at he; cases he; exact hx, hbx, hbw⟩, by simp [intOf]; omega⟩
      · obtain rfl : k = m := by omega
        have b1 : decide ((k : Int) < (k : Int)) = false := by simp
        have HR : Hid (leads d n = 0) := by
          show _ = _
          rw [leads_take d n k hno, HM.out, List.drop_length]; rfl
        clear hno
        go_wp2
        go_ret
        exact ⟨by rw [HR.out]; rfl, hbw⟩
set_option maxHeartbeats 1000000 in
theorem there_c (v : Value) (d : Dr) (n : Int) (w : World) (hd : DirV w v d) (hl : d.length ≤ 4194304) :
    Calls Tryz.prog 80 #[.agg #[v], .int .i64 n] w fun e w' => e = .returned (.bool (there d n)) ∧ Below w.heap.size w w' := by
  rcases hd with ⟨rfl, ao, c, rfl⟩ | ⟨g, cap, rfl, hc⟩
  · go_enter Tryz.func80, Tryz.ntmps80
    go_wp2
    refine wp_loop_rounds 1 ?_
    rw [rounds_succ]
    go_wp2
    go_ret
    exact ⟨rfl, (Below.refl _ w).alloc (Nat.le_refl _) _⟩
  · have HC : Hid (∀ j, j < d.length → w.cell? ⟨g, j * 2, none⟩ = some (.string (d.getD j default).1) ∧ w.cell? ⟨g, j * 2 + 1, none⟩ = some (.int .i64 (d.getD j default).2)) := hc
    obtain ⟨m, hm⟩ : ∃ m, m = d.length := ⟨_, rfl⟩
    have HM : Hid (m = d.length) := hm
    rw [← hm] at hl HC ⊢
    clear hm hc
    go_enter Tryz.func80, Tryz.ntmps80
    go_wp2
    go_loopw [5] (fun i wr => ∃ k : Nat, i = .int .i64 k ∧ k ≤ m ∧ there d n = there (d.drop k) n ∧ wr.cell? ⟨w.heap.size, 0, none⟩ = some (.slice (some ⟨g, 0, none⟩) m cap) ∧ Below w.heap.size w wr) (fun i _ => m - (intOf i).toNat)
    case atStart => exact ⟨0, rfl, Nat.zero_le _, rfl, by simp, (Below.refl _ w).alloc (Nat.le_refl _) _⟩
    case round =>
      obtain ⟨k, rfl, hkm, hno, hbx, hbw⟩ := hrel
      have HNO : Hid (there d n = there (d.drop k) n) := hno
      clear hno
      by_cases hk : k < m
      · have c0 := cell_below hbw (HC.out k hk).1
        have c1 := cell_below hbw (HC.out k hk).2
        have hge : d[k]? = some (d.getD k default) := getD_some d k (by rw [← HM.out]; exact hk)
        obtain ⟨x, y, hxy⟩ : ∃ x y, d.getD k default = (x, y) := ⟨_, _, rfl⟩
        rw [hxy] at c0 c1 hge
        have HG : Hid (there (d.drop k) n = (decide ((y : Int) = n) || there (d.drop (k + 1)) n)) := there_at d n k x y hge
        clear hge hxy
        have b1 : decide ((k : Int) < (m : Int)) = true := by simp; omega
        by_cases hx : (y : Int) = n
        · have b2 : ((y : Int) == n) = true := by simp [hx]
          have HR : Hid (there d n = true) := by
            show _ = _
            rw [HNO.out, HG.out]; simp [hx]
          have HX : Hid ((y : Int) = n) := hx
          clear hx
          go_wp2
          go_ret
          exact ⟨by rw [HR.out]; rfl, hbw⟩
        · have b2 : ((y : Int) == n) = false := by simp [hx]
          go_wp2
          exact ⟨⟨k + 1, rfl, by omega, by rw [HNO.out, HG.out]; simp [hx], hbx, hbw⟩, by simp [intOf]; omega⟩
      · obtain rfl : k = m := by omega
        have b1 : decide ((k : Int) < (k : Int)) = false := by simp
        have HR : Hid (there d n = false) := by
          show _ = _
          rw [HNO.out, HM.out, List.drop_length]; rfl
        go_wp2
        go_ret
        exact ⟨by rw [HR.out]; rfl, hbw⟩
def entV (d : Dr) : List Value := d.flatMap fun e => [.string e.1, .int .i64 e.2]
theorem entV_length (d : Dr) : (entV d).length = d.length * 2 := by
  induction d with
  | nil => rfl
  | cons e r ih => simp only [entV, List.flatMap_cons, List.length_append, List.length_cons, List.length_nil] at *; omega
theorem entV_append (a b : Dr) : entV (a ++ b) = entV a ++ entV b := by simp [entV]
theorem entV_at (d : Dr) (j : Nat) (h : j < d.length) : (entV d)[j * 2]? = some (.string (d.getD j default).1) ∧ (entV d)[j * 2 + 1]? = some (.int .i64 (d.getD j default).2) := by
  induction d generalizing j with
  | nil => simp at h
  | cons e r ih =>
    cases j with
    | zero => simp [entV]
    | succ j =>
      have := ih j (by simpa using h)
      have e1 : (j + 1) * 2 = j * 2 + 1 + 1 := by omega
      rw [e1]
      simpa [entV] using this
/-- A list of entries in a row of its own. -/
def DirO (w : World) (B : Nat) (v : Value) (d : Dr) : Prop := w.ownsRow B 139 2 v d.length (entV d)
theorem DirO.dirV {w : World} {B : Nat} {v : Value} {d : Dr} (h : DirO w B v d) : DirV w v d := by
  rcases h.2 with ⟨rfl, h0⟩ | ⟨g, cap, cur, rfl, _⟩
  · exact .inl ⟨List.eq_nil_of_length_eq_zero h0, none, 0, rfl⟩
  · refine .inr ⟨g, cap, rfl, fun j hj => ?_⟩
    obtain ⟨e1, e2⟩ := entV_at d j hj
    have a1 := World.ownsRow.cells h (g := g) rfl _ _ e1
    have a2 := World.ownsRow.cells h (g := g) rfl _ _ e2
    rw [add_lit0] at a1 a2
    exact ⟨a1, a2⟩
theorem infoE : (Tryz.prog.info? 139).map (fun i => (i.zero, i.size, i.bytes)) = some (some (.agg #[.string ⟨#[]⟩, .int .i64 0]), 2, 24) := by kernel_rfl
theorem two_new (w : World) (x y : Value) (t : TypeId) : ∀ j u, [x, y][j]? = some u → (w.alloc (.cells #[x, y] t)).cell? ((⟨w.heap.size, 0, none⟩ : Addr).add j) = some u := by
  intro j u hj
  match j, hj with
  | 0, hj => simp at hj; subst hj; simp [Addr.add]
  | 1, hj => simp at hj; subst hj; simp [Addr.add]
theorem two_one (x : ByteArray) (y : Int) : ∀ u ∈ [Value.string x, .int .i64 y], u.oneCell' = true := by
  intro u hu; simp at hu; rcases hu with rfl | rfl <;> rfl
theorem sizeD : (Tryz.prog.info? 105).map (·.size) = some 1 := by kernel_rfl
set_option maxHeartbeats 1000000 in
theorem without_c (v : Value) (d : Dr) (n : ByteArray) (w : World) (hd : DirV w v d) (hl : d.length ≤ 4194304) :
    Calls Tryz.prog 90 #[.agg #[v], .string n] w fun e w' => (∃ v', e = .returned (.agg #[v']) ∧ DirO w' w.heap.size v' (without d n)) ∧ Below w.heap.size w w' := by
  obtain ⟨i0, hi, hz0, hz1, hz2⟩ := info_parts infoE
  rcases hd with ⟨rfl, ao, c, rfl⟩ | ⟨g, cap, rfl, hc⟩
  · go_enter Tryz.func90, Tryz.ntmps90
    go_wp2
    refine wp_loop_rounds 1 ?_
    rw [rounds_succ]
    go_wp2
    go_returns
    exact ⟨⟨_, rfl, World.ownsRow_nil _ _ _ _⟩, ((Below.refl _ w).alloc (Nat.le_refl _) _).alloc (by simp) _⟩
  · have HC : Hid (∀ j, j < d.length → w.cell? ⟨g, j * 2, none⟩ = some (.string (d.getD j default).1) ∧ w.cell? ⟨g, j * 2 + 1, none⟩ = some (.int .i64 (d.getD j default).2)) := hc
    obtain ⟨m, hm⟩ : ∃ m, m = d.length := ⟨_, rfl⟩
    have HM : Hid (m = d.length) := hm
    rw [← hm] at hl HC ⊢
    clear hm hc
    go_enter Tryz.func90, Tryz.ntmps90
    go_wp2
    go_loopw [5, 6] (fun o i wr => ∃ k : Nat, i = .int .i64 k ∧ k ≤ m ∧ wr.ownsRow (w.heap.size + 2) 139 2 o (without (d.take k) n).length (entV (without (d.take k) n)) ∧
      Below (w.heap.size + 2) ((w.alloc (.cells #[.slice (some ⟨g, 0, none⟩) m cap] 105)).alloc (.cells #[.slice none 0 0] 105)) wr) (fun _ i _ => m - (intOf i).toNat)
    case atStart => exact ⟨0, rfl, Nat.zero_le _, World.ownsRow_nil _ _ _ _, Below.refl _ _⟩
    case round =>
      obtain ⟨k, rfl, hkm, hown, hbw⟩ := hrel
      have hbs : w.heap.size + 2 ≤ wr.heap.size := by have := hbw.size; simpa using this
      have hb0 : Below w.heap.size w wr := (((Below.refl _ w).alloc (Nat.le_refl _) _).alloc (by simp) _).trans (hbw.mono (by omega))
      have hbx : wr.cell? ⟨w.heap.size, 0, none⟩ = some (.slice (some ⟨g, 0, none⟩) m cap) := by
        have := hbw.block w.heap.size (by omega)
        rw [heap_alloc2_old] at this
        rw [Lib.cell_of_heap this]; rfl
      by_cases hk : k < m
      · have c0 := cell_below hb0 (HC.out k hk).1
        have c1 := cell_below hb0 (HC.out k hk).2
        have hge : d[k]? = some (d.getD k default) := getD_some d k (by rw [← HM.out]; exact hk)
        obtain ⟨x, y, hxy⟩ : ∃ x y, d.getD k default = (x, y) := ⟨_, _, rfl⟩
        rw [hxy] at c0 c1 hge
        have HG : Hid (without (d.take (k + 1)) n = without (d.take k) n ++ (if x = n then [] else [(x, y)])) := without_take d n k x y hge
        clear hge hxy
        have b1 : decide ((k : Int) < (m : Int)) = true := by simp; omega
        have hwl : (without (d.take k) n).length ≤ k := by have := without_len (d.take k) n; rw [List.length_take] at this; omega
        obtain ⟨q, hq⟩ : ∃ q, q = without (d.take k) n := ⟨_, rfl⟩
        rw [← hq] at hown HG hwl
        clear hq
        by_cases hx : x = n
        · have b2 : (x.toList == n.toList) = true := by subst hx; simp
          have HX : Hid (x = n) := hx
          clear hx
          go_wp2
          exact ⟨⟨k + 1, rfl, by omega, by rw [HG.out, if_pos HX.out, List.append_nil]; exact hown, hbw⟩, by simp [intOf]; omega⟩
        · have b2 : (x.toList == n.toList) = false := by rw [beq_toList]; simp [hx]
          go_wp2_with (at_builtin; refine wpList_append_own _ rfl _ _ 103 rfl (w.heap.size + 2) 139 i0 (.agg #[.string ⟨#[]⟩, .int .i64 0]) 2 24 Tryz.underlying103 hi hz0 hz1 hz2 rfl (by decide) _ _ _ rfl (hown.alloc _) ⟨wr.heap.size, 0, none⟩ 1 1 [.string x, .int .i64 y] rfl rfl (two_new _ _ _ _) (two_one _ _) ?c3 ?c4 ?c5 ?_)
          case c3 => unfold maxLen; omega
          case c4 => omega
          case c5 => first | omega | (simp; omega)
          intro v' w2 hown' hgrow _
          have hb2 : Below (w.heap.size + 2) ((w.alloc (.cells #[.slice (some ⟨g, 0, none⟩) m cap] 105)).alloc (.cells #[.slice none 0 0] 105)) w2 := (hbw.alloc hbs _).grown hgrow (by simp; omega) (fun k hk => (hown.lt k hk).1)
          have ho2 : w2.ownsRow (w.heap.size + 2) 139 2 v' (q ++ [(x, y)]).length (entV (q ++ [(x, y)])) := by rw [entV_append, List.length_append]; exact hown'
          clear hgrow hown' hown hbw
          go_wp2
          exact ⟨⟨k + 1, rfl, by omega, by rw [HG.out, if_neg hx]; exact ho2, hb2⟩, by simp [intOf]; omega⟩
      · obtain rfl : k = m := by omega
        have b1 : decide ((k : Int) < (k : Int)) = false := by simp
        have HT : Hid (d.take k = d) := by show _ = _; rw [HM.out, List.take_length]
        rw [HT.out] at hown
        have hrs : wr.heap[w.heap.size + 1]? = some (.cells #[.slice none 0 0] 105) := by
          have := hbw.block (w.heap.size + 1) (by omega)
          rw [heap_alloc2_new] at this; exact this
        have hrc : wr.cell? ⟨w.heap.size + 1, 0, none⟩ = some (.slice none 0 0) := by rw [Lib.cell_of_heap hrs]; rfl
        have hrf : wr.frozen? ⟨w.heap.size + 1, 0, none⟩ = false := by simp [World.frozen?, hrs]
        obtain ⟨q, hq⟩ : ∃ q, q = without d n := ⟨_, rfl⟩
        have HQ : Hid (q = without d n) := hq
        rw [← hq] at hown
        obtain ⟨ql, hql⟩ : ∃ l, l = q.length := ⟨_, rfl⟩
        have HL : Hid (ql = q.length) := hql
        rw [← hql] at hown
        obtain ⟨ao, cp, rfl⟩ := own_shape hown
        have hset : ∀ v, (wr.setCell ⟨w.heap.size + 1, 0, none⟩ v).heap[w.heap.size + 1]? = some (.cells #[v] 105) := fun v => set_one hrs v
        clear hrs hq hql
        go_wp2
        refine bodyPost_ret (results_cell_row rfl _ _ (w.heap.size + 1) _ _ _ _ rfl (hset _) Tryz.underlying105 rfl sizeD) rfl ?_
        refine ⟨⟨_, rfl, ?_⟩, below_setCell_new hb0 (Nat.le_succ _) _ _⟩
        rw [← HQ.out]
        show World.ownsRow _ _ _ _ _ _ _
        rw [← HL.out]
        exact own_mono (ownsRow_setCell_below hown (Nat.lt_succ_self _) _) (by omega)
theorem dir_below {w w' : World} {B : Nat} {v : Value} {d : Dr} (h : DirO w B v d) (hb : Below w.heap.size w w') : DirO w' B v d :=
  h.kept (row := none) ⟨hb.os, hb.tape, hb.output, hb.size, fun k hk _ => hb.block k hk⟩ (by cases hv : v.ownBlock <;> simp)
theorem app_ent {w w' W0 : World} {B : Nat} {v v' : Value} {q : Dr} {x : ByteArray} {y : Nat} (o : Obj) (hown : w.ownsRow B 139 2 v q.length (entV q)) (hb : Below B W0 w) (hB : B ≤ w.heap.size)
    (hown' : w'.ownsRow B 139 2 v' (q.length + 1) (entV q ++ [.string x, .int .i64 y])) (hg : (w.alloc o).grownBy w' v.ownBlock) :
    w'.ownsRow B 139 2 v' (q ++ [(x, y)]).length (entV (q ++ [(x, y)])) ∧ Below B W0 w' := by
  refine ⟨by rw [entV_append, List.length_append]; exact hown', ?_⟩
  exact (hb.alloc hB o).grown hg (by simp; omega) (fun k hk => (hown.lt k hk).1)
set_option maxHeartbeats 1000000 in
theorem with_c (v : Value) (d : Dr) (n : ByteArray) (b : Nat) (w : World) (hd : DirV w v d) (hl : d.length ≤ 4194304) :
    Calls Tryz.prog 81 #[.agg #[v], .string n, .int .i64 b] w fun e w' => (∃ v', e = .returned (.agg #[v']) ∧ DirO w' w.heap.size v' (with_ d n b)) ∧ Below w.heap.size w w' := by
  obtain ⟨i0, hi, hz0, hz1, hz2⟩ := info_parts infoE
  obtain ⟨ao, cp, hv⟩ : ∃ ao cp, v = .slice ao d.length cp := by
    rcases hd with ⟨rfl, ao, c, rfl⟩ | ⟨g, cap, rfl, hc⟩
    · exact ⟨_, _, rfl⟩
    · exact ⟨_, _, rfl⟩
  have HW : Hid (∀ wx, Below w.heap.size w wx → Calls Tryz.prog 90 #[.agg #[v], .string n] wx fun e w' => (∃ v', e = .returned (.agg #[v']) ∧ DirO w' wx.heap.size v' (without d n)) ∧ Below wx.heap.size wx w') := fun wx hb => without_c v d n wx (by
    rcases hd with h | ⟨g, cap, rfl, hc⟩
    · exact .inl h
    · exact .inr ⟨g, cap, rfl, fun j hj => ⟨cell_below hb (hc j hj).1, cell_below hb (hc j hj).2⟩⟩) hl
  have hwl := without_len d n
  obtain ⟨q, hq⟩ : ∃ q, q = without d n := ⟨_, rfl⟩
  rw [← hq] at HW hwl
  have HQ : Hid (with_ d n b = ins n b q) := by show _ = _; rw [hq]; rfl
  rw [HQ.out]
  have hb2 : Below w.heap.size w ((w.alloc (.cells #[v] 105)).alloc (.cells #[.slice none 0 0] 105)) := ((Below.refl _ w).alloc (Nat.le_refl _) _).alloc (by simp) _
  clear hq hd
  subst hv
  obtain ⟨m, hm⟩ : ∃ m, m = q.length := ⟨_, rfl⟩
  have HM : Hid (m = q.length) := hm
  rw [← hm] at hwl
  go_enter Tryz.func81, Tryz.ntmps81
  go_wp2_with (go_at_call 90; refine (HW.out _ hb2).mono ?_; rintro e w3 ⟨⟨v3, rfl, hd3⟩, hb3⟩; obtain ⟨ao3, c3, rfl⟩ := own_shape hd3)
  rw [← hm] at hd3 ⊢
  have hdv := hd3.dirV
  have hb30 : Below w.heap.size w w3 := hb2.trans (hb3.mono (by simp; omega))
  have hs3 : w.heap.size + 2 ≤ w3.heap.size := by have := hb3.size; simpa using this
  have HRS : Hid (w3.heap[w.heap.size + 1]? = some (.cells #[.slice none 0 0] 105)) := by
    show _ = _
    rw [hb3.block (w.heap.size + 1) (by simp), heap_alloc2_new]
  have HDV : Hid (∀ j, j < m → ∃ g, ao3 = some ⟨g, 0, none⟩ ∧ w3.cell? ⟨g, j * 2, none⟩ = some (.string (q.getD j default).1) ∧ w3.cell? ⟨g, j * 2 + 1, none⟩ = some (.int .i64 (q.getD j default).2)) := by
    intro j hj
    rcases hdv with ⟨h0, _⟩ | ⟨g, cap, hv, hc⟩
    · rw [hm, h0] at hj; simp at hj
    · cases hv; exact ⟨g, rfl, hc j (by rw [← hm]; exact hj)⟩
  clear hd3 hdv HW hb2 hm hb3
  go_loopw [8, 9, 10] (fun o dn i wr => ∃ (k : Nat) (D : Bool) (L : Dr), i = .int .i64 k ∧ dn = .bool D ∧ k ≤ m ∧ L.length ≤ k + 1 ∧ wr.ownsRow (w3.heap.size + 1) 139 2 o L.length (entV L) ∧
      Below (w3.heap.size + 1) (w3.alloc (.cells #[.slice ao3 m c3] 105)) wr ∧
      (D = true → L ++ q.drop k = ins n b q) ∧ (D = false → L = q.take k ∧ ∀ j, j < k → ∀ e, q[j]? = some e → ltB n e.1 = false)) (fun _ _ i _ => m - (intOf i).toNat)
  case atStart => exact ⟨0, false, [], rfl, rfl, Nat.zero_le _, by simp, World.ownsRow_nil _ _ _ _, Below.refl _ _, (fun h => by cases h), fun _ => ⟨rfl, fun j hj => by omega⟩⟩
  case round =>
    obtain ⟨k, D, L, rfl, rfl, hkm, hLk, hown, hbw, hT, hF⟩ := hrel
    have HT : Hid (D = true → L ++ q.drop k = ins n b q) := hT
    have HF : Hid (D = false → L = q.take k ∧ ∀ j, j < k → ∀ e, q[j]? = some e → ltB n e.1 = false) := hF
    clear hT hF
    have hbs : w3.heap.size + 1 ≤ wr.heap.size := by have := hbw.size; simpa using this
    have hb3 : Below w3.heap.size w3 wr := ((Below.refl _ w3).alloc (Nat.le_refl _) _).trans (hbw.mono (by omega))
    have hbx : wr.cell? ⟨w3.heap.size, 0, none⟩ = some (.slice ao3 m c3) := by
      have := hbw.block w3.heap.size (by omega)
      rw [heap_alloc_new] at this
      rw [Lib.cell_of_heap this]; rfl
    by_cases hk : k < m
    · obtain ⟨g, rfl, d0, d1⟩ := HDV.out k hk
      have hge : q[k]? = some (q.getD k default) := getD_some q k (by rw [← HM.out]; exact hk)
      obtain ⟨x, y, hxy⟩ : ∃ x y, q.getD k default = (x, y) := ⟨_, _, rfl⟩
      rw [hxy] at d0 d1 hge
      have c0 := cell_below hb3 d0
      have c1 := cell_below hb3 d1
      have HG : Hid (q[k]? = some (x, y)) := hge
      have HD : Hid (q.drop k = (x, y) :: q.drop (k + 1)) := drop_get q k _ hge
      clear hge hxy
      have b1 : decide ((k : Int) < (m : Int)) = true := by simp; omega
      cases D with
      | true =>
        have HE := HT.out rfl
        rw [HD.out] at HE
        have HE' : Hid (L ++ [(x, y)] ++ q.drop (k + 1) = ins n b q) := by show _ = _; rw [← HE]; simp
        clear HE HT HF HD
        go_wp2_with (at_builtin; refine wpList_append_own _ rfl _ _ 103 rfl (w3.heap.size + 1) 139 i0 (.agg #[.string ⟨#[]⟩, .int .i64 0]) 2 24 Tryz.underlying103 hi hz0 hz1 hz2 rfl (by decide) _ _ _ rfl (hown.alloc _) ⟨wr.heap.size, 0, none⟩ 1 1 [.string x, .int .i64 y] rfl rfl (two_new _ _ _ _) (two_one _ _) ?c3 ?c4 ?c5 ?_)
        case c3 => unfold maxLen; omega
        case c4 => omega
        case c5 => first | omega | (simp; omega)
        intro v' w2 hown' hgrow _
        have R := app_ent _ hown hbw hbs hown' hgrow
        clear hown' hgrow hown hbw
        go_wp2
        exact ⟨⟨k + 1, true, L ++ [(x, y)], rfl, rfl, by omega, by simp; omega, R.1, R.2, fun _ => HE'.out, fun h => by cases h⟩, by simp [intOf]; omega⟩
      | false =>
        have HE : Hid (L = q.take k) := (HF.out rfl).1
        have HN : Hid (∀ j, j < k → ∀ e, q[j]? = some e → ltB n e.1 = false) := (HF.out rfl).2
        clear HT HF
        by_cases hx : ltB n x = true
        · have b2 : Op.bytesLess n.toList x.toList = true := hx
          have HX : Hid (L ++ [(n, b)] ++ [(x, y)] ++ q.drop (k + 1) = ins n b q) := by
            show _ = _
            rw [ins_take n b q k HN.out, ins_at n b q k x y HG.out hx, HE.out, HD.out]; simp
          clear hx
          go_wp2_with (at_builtin; refine wpList_append_own _ rfl _ _ 103 rfl (w3.heap.size + 1) 139 i0 (.agg #[.string ⟨#[]⟩, .int .i64 0]) 2 24 Tryz.underlying103 hi hz0 hz1 hz2 rfl (by decide) _ _ _ rfl (hown.alloc _) ⟨wr.heap.size, 0, none⟩ 1 1 [.string n, .int .i64 b] rfl rfl (two_new _ _ _ _) (two_one _ _) ?c3 ?c4 ?c5 ?_)
          case c3 => unfold maxLen; omega
          case c4 => omega
          case c5 => first | omega | (simp; omega)
          intro v' w2 hown' hgrow _
          have R := app_ent _ hown hbw hbs hown' hgrow
          have hgs := hgrow.size
          have hb32 : Below w3.heap.size w3 w2 := ((Below.refl _ w3).alloc (Nat.le_refl _) _).trans (R.2.mono (by omega))
          have c02 := cell_below hb32 d0
          have c12 := cell_below hb32 d1
          have hbx2 : w2.cell? ⟨w3.heap.size, 0, none⟩ = some (.slice (some ⟨g, 0, none⟩) m c3) := by
            have := R.2.block w3.heap.size (by omega)
            rw [heap_alloc_new] at this
            rw [Lib.cell_of_heap this]; rfl
          obtain ⟨R1, R2⟩ := R
          have hl2 : (L ++ [(n, b)]).length = L.length + 1 := by simp
          rw [hl2] at R1
          have hs2 : w3.heap.size + 1 ≤ w2.heap.size := by have := R2.size; simpa using this
          obtain ⟨L2, hL2⟩ : ∃ L2, L2 = L ++ [(n, b)] := ⟨_, rfl⟩
          have HL2 : Hid (L2 = L ++ [(n, b)]) := hL2
          rw [← hL2] at R1 HX hl2
          rw [← hl2] at R1
          have hl3 : L2.length ≤ k + 1 := by rw [hl2]; have := congrArg List.length HE.out; rw [List.length_take] at this; omega
          clear hown' hgrow hown hbw hL2 hl2 hgs c0 c1 hbx
          go_wp2_with (at_builtin; refine wpList_append_own _ rfl _ _ 103 rfl (w3.heap.size + 1) 139 i0 (.agg #[.string ⟨#[]⟩, .int .i64 0]) 2 24 Tryz.underlying103 hi hz0 hz1 hz2 rfl (by decide) _ _ _ rfl (R1.alloc _) ⟨w2.heap.size, 0, none⟩ 1 1 [.string x, .int .i64 y] rfl rfl (two_new _ _ _ _) (two_one _ _) ?c3 ?c4 ?c5 ?_)
          case c3 => unfold maxLen; omega
          case c4 => omega
          case c5 => first | omega | (simp; omega)
          intro v3 w5 hown5 hgrow5 _
          have R5 := app_ent _ R1 R2 hs2 hown5 hgrow5
          clear hown5 hgrow5 R1 R2
          go_wp2
          exact ⟨⟨k + 1, true, L2 ++ [(x, y)], rfl, rfl, by omega, by simp; omega, R5.1, R5.2, fun _ => HX.out, fun h => by cases h⟩, by simp [intOf]; omega⟩
        · have hx0 : ltB n x = false := by simpa using hx
          have b2 : Op.bytesLess n.toList x.toList = false := hx0
          have HX : Hid (L ++ [(x, y)] = q.take (k + 1) ∧ ∀ j, j < k + 1 → ∀ e, q[j]? = some e → ltB n e.1 = false) := by
            refine ⟨?_, fun j hj e he => ?_⟩
            · rw [HE.out, List.take_add_one, HG.out]; rfl
            · rcases Nat.lt_succ_iff_lt_or_eq.1 hj with h | h
              · exact HN.out j h e he
              · subst h; rw [HG.out] at he; cases he; exact hx0
          clear hx hx0
          go_wp2_with (at_builtin; refine wpList_append_own _ rfl _ _ 103 rfl (w3.heap.size + 1) 139 i0 (.agg #[.string ⟨#[]⟩, .int .i64 0]) 2 24 Tryz.underlying103 hi hz0 hz1 hz2 rfl (by decide) _ _ _ rfl (hown.alloc _) ⟨wr.heap.size, 0, none⟩ 1 1 [.string x, .int .i64 y] rfl rfl (two_new _ _ _ _) (two_one _ _) ?c3 ?c4 ?c5 ?_)
          case c3 => unfold maxLen; omega
          case c4 => omega
          case c5 => first | omega | (simp; omega)
          intro v' w2 hown' hgrow _
          have R := app_ent _ hown hbw hbs hown' hgrow
          clear hown' hgrow hown hbw
          go_wp2
          exact ⟨⟨k + 1, false, L ++ [(x, y)], rfl, rfl, by omega, by simp; omega, R.1, R.2, (fun h => by cases h), fun _ => HX.out⟩, by simp [intOf]; omega⟩
    · obtain rfl : k = m := by omega
      have b1 : decide ((k : Int) < (k : Int)) = false := by simp
      have hrs : wr.heap[w.heap.size + 1]? = some (.cells #[.slice none 0 0] 105) := by
        rw [hb3.block (w.heap.size + 1) (by omega), HRS.out]
      have hb0 : Below w.heap.size w wr := hb30.trans (hb3.mono (by omega))
      cases D with
      | true =>
        have hE := HT.out rfl
        rw [HM.out, List.drop_length, List.append_nil] at hE
        have HE : Hid (L = ins n b q) := hE
        have hrc : wr.cell? ⟨w.heap.size + 1, 0, none⟩ = some (.slice none 0 0) := by rw [Lib.cell_of_heap hrs]; rfl
        have hrf : wr.frozen? ⟨w.heap.size + 1, 0, none⟩ = false := by simp [World.frozen?, hrs]
        have hset : ∀ v, (wr.setCell ⟨w.heap.size + 1, 0, none⟩ v).heap[w.heap.size + 1]? = some (.cells #[v] 105) := fun v => set_one hrs v
        obtain ⟨ql, hql⟩ : ∃ l, l = L.length := ⟨_, rfl⟩
        have HL : Hid (ql = L.length) := hql
        rw [← hql] at hown
        obtain ⟨ao, cp, rfl⟩ := own_shape hown
        clear hrs hql HT HF hE
        go_wp2
        refine bodyPost_ret (results_cell_row rfl _ _ (w.heap.size + 1) _ _ _ _ rfl (hset _) Tryz.underlying105 rfl sizeD) rfl ?_
        refine ⟨⟨_, rfl, ?_⟩, below_setCell_new hb0 (Nat.le_succ _) _ _⟩
        rw [← HE.out]
        show World.ownsRow _ _ _ _ _ _ _
        rw [← HL.out]
        exact own_mono (ownsRow_setCell_below hown (show w.heap.size + 1 < w3.heap.size + 1 by omega) _) (by omega)
      | false =>
        have HE : Hid (L ++ [(n, b)] = ins n b q) := by
          show _ = _
          rw [ins_take n b q k (HF.out rfl).2, (HF.out rfl).1]
          rw [show q.drop k = [] from List.drop_eq_nil_of_le (by rw [HM.out]; exact Nat.le_refl _)]; rfl
        clear HT HF
        go_wp2_with (at_builtin; refine wpList_append_own _ rfl _ _ 103 rfl (w3.heap.size + 1) 139 i0 (.agg #[.string ⟨#[]⟩, .int .i64 0]) 2 24 Tryz.underlying103 hi hz0 hz1 hz2 rfl (by decide) _ _ _ rfl (hown.alloc _) ⟨wr.heap.size, 0, none⟩ 1 1 [.string n, .int .i64 b] rfl rfl (two_new _ _ _ _) (two_one _ _) ?c3 ?c4 ?c5 ?_)
        case c3 => unfold maxLen; omega
        case c4 => omega
        case c5 => first | omega | (simp; omega)
        intro v' w2 hown' hgrow _
        obtain ⟨R1, R2⟩ := app_ent _ hown hbw hbs hown' hgrow
        clear hown' hgrow hown hbw
        rw [HE.out] at R1
        have hb32 : Below w3.heap.size w3 w2 := ((Below.refl _ w3).alloc (Nat.le_refl _) _).trans (R2.mono (by omega))
        have hrs : w2.heap[w.heap.size + 1]? = some (.cells #[.slice none 0 0] 105) := by
          rw [hb32.block (w.heap.size + 1) (by omega), HRS.out]
        have hb02 : Below w.heap.size w w2 := hb30.trans (hb32.mono (by omega))
        have hrc : w2.cell? ⟨w.heap.size + 1, 0, none⟩ = some (.slice none 0 0) := by rw [Lib.cell_of_heap hrs]; rfl
        have hrf : w2.frozen? ⟨w.heap.size + 1, 0, none⟩ = false := by simp [World.frozen?, hrs]
        have hset : ∀ v, (w2.setCell ⟨w.heap.size + 1, 0, none⟩ v).heap[w.heap.size + 1]? = some (.cells #[v] 105) := fun v => set_one hrs v
        obtain ⟨ql, hql⟩ : ∃ l, l = (ins n b q).length := ⟨_, rfl⟩
        have HL : Hid (ql = (ins n b q).length) := hql
        rw [← hql] at R1
        obtain ⟨ao, cp, rfl⟩ := own_shape R1
        clear hrs hql
        go_wp2
        refine bodyPost_ret (results_cell_row rfl _ _ (w.heap.size + 1) _ _ _ _ rfl (hset _) Tryz.underlying105 rfl sizeD) rfl ?_
        refine ⟨⟨_, rfl, ?_⟩, below_setCell_new hb02 (Nat.le_succ _) _ _⟩
        show World.ownsRow _ _ _ _ _ _ _
        rw [← HL.out]
        exact own_mono (ownsRow_setCell_below R1 (show w.heap.size + 1 < w3.heap.size + 1 by omega) _) (by omega)
end Go.Proofs.YtggnjgmjfenibaaGreatDoor
