-- strings.Builder inside a body: Len, WriteString, String, Reset.
import Derived.Test.YtodjgbmfmpbkjabV2
import Derived.BigCall
import Derived.RegionTactic
import Derived.BigRegion
namespace Go.Proofs.Ytodjgbmfmpbkjab
open Go.RowKit
set_option linter.unusedVariables false
theorem infoBl : (Try.prog.info? 72).map (·.size) = some 2 := by kernel_rfl
theorem liesBl : liesAt Try.prog Try.prog.depth 74 (7 / Try.prog.cellsOf 74) 4 72 1 = true := by kernel_rfl
theorem info5y : (Try.prog.info? 5).map (fun i => (i.zero, i.size, i.bytes)) = some (some (.int .u8 0), 1, 1) := by kernel_rfl
theorem cells5 : Try.prog.cellsOf 5 = 1 := by kernel_rfl
theorem body_cell {w : World} {b : Nat} {x : Bd} {ad v : Value} (h : w.heap[b]? = some (.cells (bodyV x ad v) 74 (0, 0))) : w.cell? ⟨b, 4, none⟩ = some ad ∧ w.cell? ⟨b, 5, none⟩ = some v ∧ w.cell? ⟨b, 6, none⟩ = some (.int .i64 x.safe) := by
  refine ⟨?_, ?_, ?_⟩ <;> (rw [Lib.cell_of_heap h]; rfl)
theorem blk_lt {w : World} {b : Nat} {o : Obj} (h : w.heap[b]? = some o) : b < w.heap.size := (Array.getElem?_eq_some_iff.1 h).1
/-- What a call on one body may turn: the body's block, the block of its bytes, new blocks. -/
structure Only (b : Nat) (w w' : World) : Prop where
  os : w'.os = w.os
  tape : w'.tape = w.tape
  output : w'.output = w.output
  size : w.heap.size ≤ w'.heap.size
  block : ∀ k, k < w.heap.size → k ≠ b → bufOf w b ≠ some k → w'.heap[k]? = w.heap[k]?
  buf : ∀ k, bufOf w' b = some k → bufOf w b = some k ∨ w.heap.size ≤ k
theorem Only.refl (b : Nat) (w : World) : Only b w w := ⟨rfl, rfl, rfl, Nat.le_refl _, fun _ _ _ _ => rfl, fun _ h => .inl h⟩
theorem Only.trans {b : Nat} {w w1 w2 : World} (h : Only b w w1) (k : Only b w1 w2) : Only b w w2 :=
  ⟨k.os.trans h.os, k.tape.trans h.tape, k.output.trans h.output, Nat.le_trans h.size k.size, fun i hi hb hbuf => (k.block i (Nat.lt_of_lt_of_le hi h.size) hb (fun e => by
      rcases h.buf i e with e' | e'
      · exact hbuf e'
      · omega)).trans (h.block i hi hb hbuf), fun i hi => by
    rcases k.buf i hi with e | e
    · exact h.buf i e
    · exact .inr (Nat.le_trans h.size e)⟩
theorem Only.drew {b : Nat} {w w' : World} (h : Only b w w') : Only b w w'.drew := ⟨h.os, h.tape, h.output, h.size, h.block, h.buf⟩
/-- A store into the body's own block. -/
theorem Only.set {b k : Nat} {w w' : World} (h : Only b w w') (v : Value) (hv : ∀ i, bufOf (w'.setCell ⟨b, k, none⟩ v) b = some i → bufOf w b = some i ∨ w.heap.size ≤ i) : Only b w (w'.setCell ⟨b, k, none⟩ v) :=
  ⟨h.os, h.tape, h.output, by have := h.size; simpa [World.setCell] using this, fun i hi hb hbuf => (Below.heap_setCell _ _ _ _ hb).trans (h.block i hi hb hbuf), hv⟩
theorem Only.kp {F : Nat → Prop} {b : Nat} {w w' : World} (h : Only b w w') (hb : F b) (hbuf : ∀ k, bufOf w b = some k → F k) : Kp F w w' :=
  ⟨h.os, h.tape, h.output, h.size, fun k hk hF => h.block k hk (fun e => hF (e ▸ hb)) (fun e => hF (hbuf k e))⟩
theorem set_body {w : World} {b : Nat} {x : Bd} {ad v : Value} (h : w.heap[b]? = some (.cells (bodyV x ad v) 74 (0, 0))) : 
    (∀ u, (w.setCell ⟨b, 4, none⟩ u).heap[b]? = some (.cells (bodyV x u v) 74 (0, 0))) ∧ (∀ u, (w.setCell ⟨b, 5, none⟩ u).heap[b]? = some (.cells (bodyV x ad u) 74 (0, 0))) ∧ (∀ n : Nat, (w.setCell ⟨b, 6, none⟩ (.int .i64 n)).heap[b]? = some (.cells (bodyV { x with safe := n } ad v) 74 (0, 0))) :=
  ⟨fun u => blk_set h u, fun u => blk_set h u, fun u => blk_set h _⟩
theorem body_sh {w : World} {b : Nat} {x : Bd} {ad v : Value} (h : w.heap[b]? = some (.cells (bodyV x ad v) 74 (0, 0))) : w.shape? b = some (74, 7) := by
  simp [World.shape?, h, bodyV]
theorem buf_ne {w : World} {b : Nat} {x : Bd} {ad v : Value} {n : Nat} {xs : List Value} (h : w.heap[b]? = some (.cells (bodyV x ad v) 74 (0, 0))) (ho : w.ownsRowF 0 5 1 v n xs) : v.ownBlock ≠ some b := Lib.ownBlock_neF ho h (by decide)
set_option maxHeartbeats 1000000 in
theorem blen_c (b : Nat) (x : Bd) (w : World) (h : BodyAt w b x) :
    Calls Try.prog 28 #[.pointer (some ⟨b, 4, none⟩)] w fun e w' => e = .returned (.int .i64 x.data.size) ∧ w' = w := by
  obtain ⟨ad, v, hh, had, hown⟩ := h
  obtain ⟨ao, c, rfl⟩ := ownF_shape hown
  obtain ⟨c4, c5, c6⟩ := body_cell hh
  clear hown had hh
  go_enter Try.func28, Try.ntmps28
  go_wp2
  go_ret
  exact ⟨rfl, rfl⟩
set_option maxHeartbeats 1000000 in
set_option maxRecDepth 100000 in
theorem copy_used (b : Nat) (w : World) (h0 : w.cell? ⟨b, 4, none⟩ = some (.pointer (some ⟨b, 4, none⟩))) :
    Calls Try.prog 70 #[.pointer (some ⟨b, 4, none⟩)] w fun e w' => e = .returned (.tuple #[]) ∧ w' = w := by
  obtain ⟨j, hj, _⟩ := Option.map_eq_some_iff.1 infoBl
  go_enter Try.func70, Try.ntmps70
  go_wp2
  rw [Lib.run_neq_ptr_same w _ Try.underlying69 hj]
  go_wp2
  go_end0
  exact ⟨rfl, rfl⟩
set_option maxHeartbeats 1000000 in
set_option maxRecDepth 100000 in
theorem copy_fresh (b : Nat) (w : World) (h0 : w.cell? ⟨b, 4, none⟩ = some (.pointer none)) (hsh : w.shape? b = some (74, 7)) (hfz : w.frozen? ⟨b, 4, none⟩ = false) :
    Calls Try.prog 70 #[.pointer (some ⟨b, 4, none⟩)] w fun e w' => e = .returned (.tuple #[]) ∧ w' = w.setCell ⟨b, 4, none⟩ (.pointer (some ⟨b, 4, none⟩)) := by
  obtain ⟨j, hj, hjs⟩ := Option.map_eq_some_iff.1 infoBl
  go_enter Try.func70, Try.ntmps70
  go_wp2
  rw [Lib.run_to_unsafe w ⟨b, 4, none⟩ Try.underlying69 Try.underlying145 hj (by rw [hjs]; decide) hsh (show 4 < 7 by decide)]
  simp only [Result.andThen]
  rw [Oper.upon_value]
  go_wp2
  rw [run_callFunc_extern Try.func87 (by kernel_rfl) (by kernel_rfl) (by kernel_rfl) (e := Extern.AbiNoEscape.same) (by kernel_rfl), Lib.run_noEscape]
  simp only [Result.andThen]
  rw [Oper.upon_value]
  go_wp2
  rw [Lib.run_from_unsafe w ⟨b, 4, none⟩ Try.underlying145 Try.underlying69 hj hsh liesBl]
  simp only [Result.andThen]
  rw [Oper.upon_value]
  go_wp2
  go_end0
  exact ⟨rfl, rfl⟩
theorem copy_c (b : Nat) (x : Bd) (w : World) (h : BodyAt w b x) :
    Calls Try.prog 70 #[.pointer (some ⟨b, 4, none⟩)] w fun e w' => e = .returned (.tuple #[]) ∧ Only b w w' ∧ ∃ v, w'.heap[b]? = some (.cells (bodyV x (.pointer (some ⟨b, 4, none⟩)) v) 74 (0, 0)) ∧ bufOf w b = v.ownBlock ∧ w'.ownsRowF 0 5 1 v x.data.size (Lib.byteCells x.data.data.toList) := by
  obtain ⟨ad, v, hh, had, hown⟩ := h
  rcases had with rfl | rfl
  · refine (copy_fresh b w (body_cell hh).1 (body_sh hh) (Lib.frozen_of_heap hh _)).mono ?_
    rintro e w' ⟨rfl, rfl⟩
    have h1 := (set_body hh).1 (.pointer (some ⟨b, 4, none⟩))
    refine ⟨rfl, (Only.refl b w).set _ (fun i hi => .inl ?_), v, h1, bufOf_eq hh, ownF_keep hown fun k hk => Below.heap_setCell _ _ _ _ (fun e => buf_ne hh hown (by rw [hk, e]))⟩
    rw [bufOf_eq h1] at hi; rw [bufOf_eq hh]; exact hi
  · refine (copy_used b w (body_cell hh).1).mono ?_
    rintro e w' ⟨rfl, rfl⟩
    exact ⟨rfl, Only.refl _ _, v, hh, bufOf_eq hh, hown⟩
theorem append_where {P : Program} (w : World) (t u ty e : TypeId) (i : TypeInfo) (ht : P.underlying t = some (.slice e)) (hu : P.underlying u = some .string) (hi : P.info? e = some i) (hz : i.zero = some (.int .u8 0)) (hsize : i.size = 1) (hby : i.bytes = 1)
    (v : Value) (n : Nat) (xs : List Value) (hown : w.ownsRowF 0 e 1 v n xs) (s : ByteArray) (h63 : n + s.size ≤ maxLen) (hbytes : n + s.size ≤ 140737488355328) (v' : Value) (w' : World) (hrun : (Builtin.append_ #[t, u] ty #[v, .string s]).run P w = .ok v' w') :
    ∀ k, v'.ownBlock = some k → v.ownBlock = some k ∨ w.heap.size ≤ k := by
  intro k hk
  rcases hown.2 with ⟨rfl, rfl⟩ | ⟨g, cap, cur, fz, rfl, hbg, hg, hfz, hnc, hcm, hcs, htake⟩
  · obtain ⟨v2, w2, h1, h2, h3, h4⟩ := Lib.run_append_own_string (P := P) w w.heap.size t u ty e i ht hu hi hz hsize hby (.slice none 0 0) 0 xs ⟨hown.1, .inl ⟨rfl, rfl⟩⟩ s h63 hbytes (Nat.le_refl _)
    rw [hrun] at h1
    cases h1
    exact .inr (h2.lt k hk).1
  · have hxl : xs.length = n := by simpa using hown.1
    have hsmall : n + s.size ≤ 9223372036854775807 := by simp only [maxLen] at h63; omega
    by_cases hroom : n + s.size ≤ cap
    · have hr := Lib.run_append_room_stringF (P := P) w t u ty e i ht hu hi hsize g n cap cur fz hg (by simpa using hfz) s hroom (by omega)
      rw [hrun] at hr
      cases hr
      exact .inl hk
    · have holds : ∀ j u, xs[j]? = some u → w.cell? ((⟨g, 0, none⟩ : Addr).add j) = some u := hown.cells (g := g) rfl
      have hr := Lib.run_append_grow_string (P := P) w t u ty e i (.int .u8 0) ht hu hi hz ⟨g, 0, none⟩ n cap xs (by rw [hsize]; simpa using hxl) holds s (by omega) (by omega) (by rw [hby]; exact growslice_fits (by omega) (by omega))
      rw [hrun] at hr
      cases hr
      simp only [Value.ownBlock, Option.some.injEq] at hk
      exact .inr (by omega)
theorem wp_append_str {P : Program} (w : World) {ops : Array Oper} {rest : List Oper} {o : Oper} {a : Act} {Q : Exit → Act → World → Prop} (hgd : o.guard = none) (sl x : Operand) (t u : TypeId)
    (ho : o.op = .call { callee := .builtin .append, args := #[sl, x], argTypes := #[t, u] })
    (e : TypeId) (i : TypeInfo) (ht : P.underlying t = some (.slice e)) (hu : P.underlying u = some .string) (hi : P.info? e = some i) (hz : i.zero = some (.int .u8 0)) (hsize : i.size = 1) (hby : i.bytes = 1)
    (v : Value) (n : Nat) (xs : List Value) (hs : a.eval sl = v) (hown : w.ownsRowF 0 e 1 v n xs) (s : ByteArray) (hx : a.eval x = .string s) (h63 : n + s.size ≤ maxLen) (hbytes : n + s.size ≤ 140737488355328)
    (h : ∀ v' w', w'.ownsRowF 0 e 1 v' (n + s.size) (xs ++ Lib.strCells s) → w.grownBy w' v.ownBlock → (∀ k, v'.ownBlock = some k → v.ownBlock = some k ∨ w.heap.size ≤ k) → wpList P ops Q rest (a.put o.dst v') w') : wpList P ops Q (o :: rest) a w := by
  refine wpList_plain hgd fun K hK => ?_
  obtain ⟨v', w', hr, h2, h3, h4⟩ := Lib.run_append_own_stringF (P := P) w 0 t u o.type e i ht hu hi hz hsize hby v n xs hown s h63 hbytes (Nat.zero_le _)
  have h5 := append_where w t u o.type e i ht hu hi hz hsize hby v n xs hown s h63 hbytes v' w' hr
  unfold Oper.wp execOp
  simp only [ho, resolve, invoke, builtin, Sem.run_bind, Sem.run_pure, Result.andThen_ok, List.map_toArray, List.map_cons, List.map_nil, hs, hx, hr]
  exact hK _ _ (h v' w' h2 h3 h5)
set_option maxHeartbeats 2000000 in
set_option maxRecDepth 100000 in
theorem bwrite_c (b : Nat) (x : Bd) (s : ByteArray) (w : World) (h : BodyAt w b x) (hlen : x.data.size + s.size ≤ 140737488355328) :
    Calls Try.prog 47 #[.pointer (some ⟨b, 4, none⟩), .string s] w fun e w' => e = .returned (.tuple #[.int .i64 s.size, .nilIface]) ∧ BodyAt w' b { x with data := x.data ++ s } ∧ Only b w w' := by
  obtain ⟨i0, hi, hz0, hz1, hz2⟩ := info_parts info5y
  have HX : Hid (BodyAt w b x) := h
  clear h
  go_enter Try.func47, Try.ntmps47
  go_wp2_with (go_at_call 70; refine (copy_c b x _ HX.out).mono ?_)
  rintro e w1 ⟨rfl, ho1, v, hbk, hbuf, hown⟩
  have HO1 : Hid (Only b w w1) := ho1
  have HBF : Hid (bufOf w b = v.ownBlock) := hbuf
  have HBK : Hid (w1.heap[b]? = some (.cells (bodyV x (.pointer (some ⟨b, 4, none⟩)) v) 74 (0, 0))) := hbk
  obtain ⟨c4, c5, c6⟩ := body_cell hbk
  clear ho1 hbuf hbk c6 HX
  go_wp2_with (at_builtin; refine wp_append_str _ rfl _ _ 70 9 rfl 5 i0 Try.underlying70 Try.underlying9 hi hz0 hz1 hz2 _ _ _ rfl hown s rfl ?c3 ?c4 ?_)
  case c3 => unfold maxLen; omega
  case c4 => omega
  intro v' w2 hown' hgrow hwhere
  have hne := buf_ne HBK.out hown
  have hlt := blk_lt HBK.out
  have hb2 : w2.heap[b]? = some (.cells (bodyV x (.pointer (some ⟨b, 4, none⟩)) v) 74 (0, 0)) := by
    rw [hgrow.block b hlt (fun e => hne e.symm)]; exact HBK.out
  have HB2 : Hid (w2.heap[b]? = some (.cells (bodyV x (.pointer (some ⟨b, 4, none⟩)) v) 74 (0, 0))) := hb2
  obtain ⟨d4, d5, d6⟩ := body_cell hb2
  have f1 : w2.frozen? ⟨b, 5, none⟩ = false := Lib.frozen_of_heap hb2 5
  obtain ⟨ao, cap, rfl⟩ := ownF_shape hown'
  have hb3 := (set_body hb2).2.1 (.slice ao (x.data.size + s.size) cap)
  have hne' : (Value.slice ao (x.data.size + s.size) cap).ownBlock ≠ some b := Lib.ownBlock_neF hown' hb2 (by decide)
  have HR : Hid (BodyAt (w2.setCell ⟨b, 5, none⟩ (.slice ao (x.data.size + s.size) cap)) b { x with data := x.data ++ s } ∧ Only b w (w2.setCell ⟨b, 5, none⟩ (.slice ao (x.data.size + s.size) cap))) := by
    refine ⟨⟨_, _, hb3, .inr rfl, ?_⟩, HO1.out.trans ?_⟩
    · have e1 : (x.data ++ s).size = x.data.size + s.size := by simp
      have e2 : Lib.byteCells (x.data ++ s).data.toList = Lib.byteCells x.data.data.toList ++ Lib.strCells s := by rw [Lib.strCells_eq, ← Lib.byteCells_append]; simp
      show World.ownsRowF _ 0 5 1 _ (x.data ++ s).size (Lib.byteCells (x.data ++ s).data.toList)
      rw [e1, e2]
      exact ownF_keep hown' fun k hk => Below.heap_setCell _ _ _ _ (fun e => hne' (by rw [hk, e]))
    · have hbw1 : bufOf w1 b = v.ownBlock := bufOf_eq HBK.out
      have ho2 : Only b w1 w2 := ⟨hgrow.os, hgrow.tape, hgrow.output, hgrow.size, fun k hk hb hbuf => hgrow.block k hk (fun e => hbuf (by rw [hbw1, e])), fun k hk => .inl (by rw [bufOf_eq hb2] at hk; rw [hbw1]; exact hk)⟩
      refine ho2.set _ fun i hi => ?_
      rw [bufOf_eq hb3] at hi
      rw [hbw1]
      exact hwhere i hi
  clear hgrow hown' hb2 hb3 hne hne' hown hwhere
  go_wp2
  go_ret2
  exact ⟨rfl, HR.out⟩
set_option maxHeartbeats 2000000 in
theorem breset_c (b : Nat) (x : Bd) (w : World) (h : BodyAt w b x) :
    Calls Try.prog 72 #[.pointer (some ⟨b, 4, none⟩)] w fun e w' => e = .returned (.tuple #[]) ∧ BodyAt w' b { x with data := ⟨#[]⟩ } ∧ Only b w w' := by
  obtain ⟨ad, v, hh, had, hown⟩ := h
  have h1 := (set_body hh).1 (.pointer none)
  have h2 := (set_body h1).2.1 (.slice none 0 0)
  have HR : Hid (BodyAt ((w.setCell ⟨b, 4, none⟩ (.pointer none)).setCell ⟨b, 5, none⟩ (.slice none 0 0)) b { x with data := ⟨#[]⟩ } ∧ Only b w ((w.setCell ⟨b, 4, none⟩ (.pointer none)).setCell ⟨b, 5, none⟩ (.slice none 0 0))) := by
    refine ⟨⟨_, _, h2, .inl rfl, World.ownsRowF_nil _ _ _ _⟩, ((Only.refl b w).set _ fun i hi => .inl ?_).set _ fun i hi => ?_⟩
    · rw [bufOf_eq h1] at hi; rw [bufOf_eq hh]; exact hi
    · rw [bufOf_eq h2] at hi; cases hi
  obtain ⟨c4, c5, c6⟩ := body_cell hh
  obtain ⟨d4, d5, d6⟩ := body_cell h1
  have f4 : w.frozen? ⟨b, 4, none⟩ = false := Lib.frozen_of_heap hh 4
  have f5 : (w.setCell ⟨b, 4, none⟩ (.pointer none)).frozen? ⟨b, 5, none⟩ = false := Lib.frozen_of_heap h1 5
  clear hh h1 h2 had hown c6 d6
  go_enter Try.func72, Try.ntmps72
  go_wp2
  go_end0
  exact ⟨rfl, HR.out⟩
theorem freeze_other (w : World) (g n k : Nat) (h : k ≠ g) : (w.freeze ⟨g, 0, none⟩ n).heap[k]? = w.heap[k]? := by
  unfold World.freeze
  split
  · rfl
  · simp only [Array.getElem?_modify]
    rw [if_neg (fun e => h e.symm)]
theorem freeze_size (w : World) (g n : Nat) : (w.freeze ⟨g, 0, none⟩ n).heap.size = w.heap.size ∧ (w.freeze ⟨g, 0, none⟩ n).os = w.os ∧ (w.freeze ⟨g, 0, none⟩ n).tape = w.tape ∧ (w.freeze ⟨g, 0, none⟩ n).output = w.output := by
  unfold World.freeze
  split
  · exact ⟨rfl, rfl, rfl, rfl⟩
  · exact ⟨by simp, rfl, rfl, rfl⟩
theorem froze_own {w : World} {g cap n : Nat} {xs : List Value} (h : w.ownsRowF 0 5 1 (.slice (some ⟨g, 0, none⟩) n cap) n xs) : (w.freeze ⟨g, 0, none⟩ n).ownsRowF 0 5 1 (.slice (some ⟨g, 0, none⟩) n cap) n xs := by
  unfold World.freeze
  split
  · exact h
  · rename_i hn0
    refine ⟨h.1, ?_⟩
    rcases h.2 with ⟨hv, _⟩ | ⟨g', cap', cur, fz, hv, hbg, hg, hfz, rest⟩
    · cases hv
    · injection hv with ha _ hcap
      injection ha with ha
      injection ha with hgg _ _
      subst hgg
      subst hcap
      obtain ⟨lo, hi⟩ := fz
      refine .inr ⟨g, cap, cur, (if lo == hi then (0, 0 + n) else (min lo 0, max hi (0 + n))), rfl, hbg, ?_, ?_, rest⟩
      · simp [Array.getElem?_modify, hg]
      · simp only at hfz
        split <;> simp <;> omega
theorem bstr_end {w w' : World} {b : Nat} {x : Bd} {ad v : Value} (hh : w.heap[b]? = some (.cells (bodyV x ad v) 74 (0, 0))) (had : ad = .pointer none ∨ ad = .pointer (some ⟨b, 4, none⟩)) (hown : w'.ownsRowF 0 5 1 v x.data.size (Lib.byteCells x.data.data.toList)) (hb : w'.heap[b]? = w.heap[b]?) (hos : w'.os = w.os ∧ w'.tape = w.tape ∧ w'.output = w.output ∧ w.heap.size ≤ w'.heap.size) (hk : ∀ k, k < w.heap.size → v.ownBlock ≠ some k → w'.heap[k]? = w.heap[k]?) : BodyAt w' b x ∧ Only b w w' ∧ w'.heap[b]? = w.heap[b]? :=
  ⟨⟨ad, v, hb.trans hh, had, hown⟩, ⟨hos.1, hos.2.1, hos.2.2.1, hos.2.2.2, fun k hk' _ hbuf => hk k hk' (fun e => hbuf (by rw [bufOf_eq hh, e])), fun k hk' => .inl (by rw [bufOf_keep hb] at hk'; exact hk')⟩, hb⟩
set_option maxHeartbeats 4000000 in
set_option maxRecDepth 100000 in
theorem bstr_k (b : Nat) (x : Bd) (w : World) (h : BodyAt w b x) :
    Calls Try.prog 53 #[.pointer (some ⟨b, 4, none⟩)] w fun e w' => e = .returned (.string x.data) ∧ BodyAt w' b x ∧ Only b w w' ∧ w'.heap[b]? = w.heap[b]? := by
  obtain ⟨ad, v, hh, had, hown⟩ := h
  have hne := buf_ne hh hown
  have hlt := blk_lt hh
  have hsz : x.data.data.toList.length = x.data.size := by rw [← Lib.size_eq]
  by_cases h0 : x.data.size = 0
  · have hnil : x.data = ⟨#[]⟩ := by
      have : x.data.data.size = 0 := h0
      have e : x.data.data = #[] := Array.eq_empty_of_size_eq_zero this
      cases hx : x.data with | mk d => rw [hx] at e; simp at e; rw [e]
    rw [hnil]
    have hUS : ∀ (W : World) (q : Option Addr), (Builtin.unsafeString_ #[126, 3] 9 #[.pointer q, .int .i64 0]).run Try.prog W = .ok (.string .empty) W := fun W q => Lib.run_unsafeString_none W _ _ _ q
    rcases hown.2 with ⟨rfl, _⟩ | ⟨g, cap, cur, fz, rfl, hbg, hg, r⟩
    · have c1 : w.drew.cell? ⟨b, 5, none⟩ = some (.slice none 0 0) := (body_cell (w := w.drew) hh).2.1
      have hSD : (Builtin.unsafeSliceData_ #[70] 126 #[.slice none 0 0]).run Try.prog w.drew = .ok (.pointer none) w.drew := rfl
      have HR : Hid (BodyAt w.drew b x ∧ Only b w w.drew ∧ w.drew.heap[b]? = w.heap[b]?) := bstr_end hh had (w' := w.drew) hown rfl ⟨rfl, rfl, rfl, Nat.le_refl _⟩ fun _ _ _ => rfl
      clear hown hh had hne hnil hsz h0
      go_enter Try.func53, Try.ntmps53
      go_wp2
      go_region
      all_goals (go_wp2; go_ret; exact ⟨rfl, HR.out⟩)
    · rw [h0] at hown hh
      by_cases hc0 : cap = 0
      · subst hc0
        have c1 : w.drew.cell? ⟨b, 5, none⟩ = some (.slice (some ⟨g, 0, none⟩) 0 0) := (body_cell (w := w.drew) hh).2.1
        have hSD : (Builtin.unsafeSliceData_ #[70] 126 #[.slice (some ⟨g, 0, none⟩) 0 0]).run Try.prog w.drew = .ok (.pointer (some ⟨w.drew.heap.size, 0, none⟩)) (w.drew.alloc (.view ⟨g, 0, none⟩ 5)) :=
          Lib.run_unsafeSliceData_zero w.drew _ _ 5 Try.underlying126 ⟨g, 0, none⟩ 0 (5, cur.size) (by have hg' : w.drew.heap[g]? = some (.cells cur 5 fz) := hg; simp [World.shape?, hg'])
        have c2 : (w.drew.alloc (.view ⟨g, 0, none⟩ 5)).cell? ⟨b, 5, none⟩ = some (.slice (some ⟨g, 0, none⟩) 0 0) := by
          have : (w.drew.alloc (.view ⟨g, 0, none⟩ 5)).heap[b]? = _ := (Lib.alloc_old w.drew _ b hlt).trans hh
          rw [Lib.cell_of_heap this]; rfl
        have c3 : (w.alloc (.view ⟨g, 0, none⟩ 5)).drew.cell? ⟨b, 5, none⟩ = some (.slice (some ⟨g, 0, none⟩) 0 0) := c2
        have c0 : w.cell? ⟨b, 5, none⟩ = some (.slice (some ⟨g, 0, none⟩) 0 0) := c1
        have HR : Hid (BodyAt (w.alloc (.view ⟨g, 0, none⟩ 5)).drew b x ∧ Only b w (w.alloc (.view ⟨g, 0, none⟩ 5)).drew ∧ (w.alloc (.view ⟨g, 0, none⟩ 5)).drew.heap[b]? = w.heap[b]?) :=
          bstr_end (w' := (w.alloc (.view ⟨g, 0, none⟩ 5)).drew) hh had (by rw [h0]; exact hown.alloc _) (Lib.alloc_old w _ b hlt) ⟨rfl, rfl, rfl, by simp⟩ fun k hk _ => Lib.alloc_old w _ k hk
        clear hown hh had hne hnil hsz h0 r hg
        go_enter Try.func53, Try.ntmps53
        go_wp2
        go_region
        all_goals (go_wp2; go_ret; exact ⟨rfl, HR.out⟩)
      · have c1 : w.drew.cell? ⟨b, 5, none⟩ = some (.slice (some ⟨g, 0, none⟩) 0 cap) := (body_cell (w := w.drew) hh).2.1
        have hSD : (Builtin.unsafeSliceData_ #[70] 126 #[.slice (some ⟨g, 0, none⟩) 0 cap]).run Try.prog w.drew = .ok (.pointer (some ⟨g, 0, none⟩)) w.drew := Lib.run_unsafeSliceData_row _ _ _ _ _ _ hc0
        have HR : Hid (BodyAt w.drew b x ∧ Only b w w.drew ∧ w.drew.heap[b]? = w.heap[b]?) := bstr_end hh had (w' := w.drew) (by rw [h0]; exact hown) rfl ⟨rfl, rfl, rfl, Nat.le_refl _⟩ fun _ _ _ => rfl
        clear hown hh had hne hnil hsz h0 r hg hc0
        go_enter Try.func53, Try.ntmps53
        go_wp2
        go_region
        all_goals (go_wp2; go_ret; exact ⟨rfl, HR.out⟩)
  · obtain ⟨g, cap, cur, fz, hv, hbg, hg, hfz, hnc, hcm, hcs, htake⟩ : ∃ g cap cur fz, v = .slice (some ⟨g, 0, none⟩) x.data.size cap ∧ 0 ≤ g ∧ w.heap[g]? = some (.cells cur 5 fz) ∧ fz.2 ≤ x.data.size * 1 ∧ x.data.size ≤ cap ∧ cap ≤ maxLen ∧ cur.size = cap * 1 ∧ cur.toList.take (x.data.size * 1) = Lib.byteCells x.data.data.toList := by
      rcases hown.2 with ⟨_, hz⟩ | ⟨g, cap, cur, fz, hv, r⟩
      · exact absurd hz h0
      · exact ⟨g, cap, cur, fz, hv, r⟩
    subst hv
    have c1 : w.drew.cell? ⟨b, 5, none⟩ = some (.slice (some ⟨g, 0, none⟩) x.data.size cap) := (body_cell (w := w.drew) hh).2.1
    have hSD : (Builtin.unsafeSliceData_ #[70] 126 #[.slice (some ⟨g, 0, none⟩) x.data.size cap]).run Try.prog w.drew = .ok (.pointer (some ⟨g, 0, none⟩)) w.drew := Lib.run_unsafeSliceData_row _ _ _ _ _ _ (by omega)
    have hUS : (Builtin.unsafeString_ #[126, 3] 9 #[.pointer (some ⟨g, 0, none⟩), .int .i64 x.data.size]).run Try.prog w.drew = .ok (.string x.data) (w.drew.freeze ⟨g, 0, none⟩ x.data.size) := by
      have := Lib.run_unsafeString_row w.drew 126 3 9 5 Try.underlying126 cells5 g cur.size (by have hg' : w.drew.heap[g]? = some (.cells cur 5 fz) := hg; simp [World.shape?, hg']) x.data.data.toList (by intro e; rw [e] at hsz; exact h0 hsz.symm) (by omega) (by unfold maxLen at hcm; omega) (by
        intro j y hy
        have := hown.cells (g := g) rfl j (.int .u8 y.toNat) (by simp [Lib.byteCells, hy])
        exact this)
      rw [hsz] at this
      exact this
    have hgb : b ≠ g := fun e => hne (by simp [Value.ownBlock, e])
    have HR : Hid (BodyAt (w.drew.freeze ⟨g, 0, none⟩ x.data.size) b x ∧ Only b w (w.drew.freeze ⟨g, 0, none⟩ x.data.size) ∧ (w.drew.freeze ⟨g, 0, none⟩ x.data.size).heap[b]? = w.heap[b]?) := by
      have hfs := freeze_size w.drew g x.data.size
      refine bstr_end hh had (froze_own (w := w.drew) hown) (freeze_other w.drew g _ b hgb) ⟨hfs.2.1, hfs.2.2.1, hfs.2.2.2, Nat.le_of_eq hfs.1.symm⟩ fun k _ hk => freeze_other w.drew g _ k (fun e => hk (by simp [Value.ownBlock, e]))
    obtain ⟨n, hn⟩ : ∃ n, n = x.data.size := ⟨_, rfl⟩
    obtain ⟨D, hD⟩ : ∃ D, D = x.data := ⟨_, rfl⟩
    rw [← hn] at c1 hSD hUS HR
    rw [← hD] at hUS ⊢
    clear hown hh had hne hsz h0 hfz hnc hcm hcs htake hg hn hD
    go_enter Try.func53, Try.ntmps53
    go_wp2
    go_region
    all_goals (go_wp2; go_ret; exact ⟨rfl, HR.out⟩)
theorem bstr_c (b : Nat) (x : Bd) (w : World) (h : BodyAt w b x) :
    Calls Try.prog 53 #[.pointer (some ⟨b, 4, none⟩)] w fun e w' => e = .returned (.string x.data) ∧ BodyAt w' b x ∧ Only b w w' :=
  (bstr_k b x w h).mono fun _ _ h => ⟨h.1, h.2.1, h.2.2.1⟩
end Go.Proofs.Ytodjgbmfmpbkjab
