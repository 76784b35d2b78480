-- Create.
import Derived.Test.YtodjgbmfmpbkjabV18
namespace Go.Proofs.Ytodjgbmfmpbkjab
open Go.RowKit
set_option linter.unusedVariables false
theorem RN.madeUp {F : Nat → Prop} {p cap made : Nat} {now d0 : Dr} {cs : List Chg} {T K : List (Nat × Nat)} {bs : List Bd} {w : World} {bd bf bt bk : Nat} {vp : Value} (h : RN F p cap made now d0 cs T K bs w bd bf bt bk vp) (m : Nat) :
    RN F p cap m now d0 cs T K bs (w.setCell ⟨p, 1, none⟩ (.int .i64 m)) bd bf bt bk vp ∧ Kp F w (w.setCell ⟨p, 1, none⟩ (.int .i64 m)) := by
  have other : ∀ k, k ≠ p → (w.setCell ⟨p, 1, none⟩ (.int .i64 m)).heap[k]? = w.heap[k]? := fun k hk => Below.heap_setCell _ _ _ _ hk
  refine ⟨⟨blk_set h.blk _, h.fp, h.f1, h.f2, h.f3, h.f4, h.n1, h.n2, h.n3, h.n4, h.n5, h.n6, h.m1.keep (other _ (h.apart h.m1).1.symm), h.m2.keep (other _ (h.apart h.m2).1.symm), h.m3.keep (other _ (h.apart h.m3).1.symm), h.m4.keep (other _ (h.apart h.m4).1.symm), own_keep h.row fun k hk => other k ?_, h.rowF, h.bod.keep (fun e he k hk => other k ?_) fun _ h => h⟩, rfl, rfl, rfl, by simp [World.setCell], fun k _ hk => other k (fun e => hk (e ▸ h.fp))⟩
  · obtain ⟨cur, hh⟩ := own_typed h.row hk
    exact fun e => typed_ne hh h.blk (by decide) e
  · obtain ⟨i, x, _, _, hx⟩ := h.bod.at_ e he
    rcases hk with rfl | hk
    · obtain ⟨cur, hh⟩ := hx.blk; exact fun e => typed_ne hh h.blk (by decide) e
    · obtain ⟨cur, fz, hh⟩ := hx.buf hk; exact fun e => typed_ne hh h.blk (by decide) e
theorem wp_len_w {P : Program} (w : World) {ops : Array Oper} {rest : List Oper} {o : Oper} {a : Act} {Q : Exit → Act → World → Prop} (hwd : Region.wanted o (yielded ops a.tmps) = true) (m : Operand) (t : TypeId) (hop : o.op = Op.call { callee := Callee.builtin Builtin.len, args := #[m], argTypes := #[t] }) (mv : Value) (n : Int) (hm : a.eval m = mv) (hrun : (Builtin.len_ #[t] o.type #[mv]).run P w = .ok (.int .i64 n) w)
    (hK : wpList P ops Q rest (a.put o.dst (.int .i64 n)) w) : wpList P ops Q (o :: rest) a w := by
  refine wpList_step fun K' hK' => ?_
  rw [if_pos hwd]
  unfold Oper.wp
  simp [execOp, hop, resolve, invoke, builtin, hm, hrun, Result.andThen]
  exact hK' _ _ hK
def newX (m0 m1 m2 m3 : Int) : Bd := ⟨m0, m1, m2, m3, ⟨#[]⟩, 0⟩
/-- A new body, in the map. -/
theorem RN.newBody {F : Nat → Prop} {p cap made : Nat} {now d0 : Dr} {cs : List Chg} {T K : List (Nat × Nat)} {bs : List Bd} {w : World} {bd bf bt bk : Nat} {vp : Value} (h : RN F p cap made now d0 cs T K bs w bd bf bt bk vp) (m0 m1 m2 m3 : Int) (hT : ∀ e ∈ T, e.1 ≤ bs.length) :
    ∃ w2, (Instr.mapUpdate 63 (.map (some bt)) (.int .i64 ((bs.length + 1 : Nat) : Int)) (.pointer (some ⟨w.heap.size, 0, none⟩))).run Try.prog (w.alloc (.cells #[.int .i64 m0, .int .i64 m1, .int .i64 m2, .int .i64 m3, .pointer none, .slice none 0 0, .int .i64 0] 74)).drew = .ok () w2 ∧
      RN (ext F w w2) p cap made now d0 cs ((bs.length + 1, w.heap.size) :: T) K (bs ++ [newX m0 m1 m2 m3]) w2 bd bf bt bk vp ∧ Kp F w w2 ∧ w2.heap.size = w.heap.size + 1 := by
  obtain ⟨X, hX⟩ : ∃ X, X = Obj.cells #[.int .i64 m0, .int .i64 m1, .int .i64 m2, .int .i64 m3, .pointer none, .slice none 0 0, .int .i64 0] 74 := ⟨_, rfl⟩
  rw [← hX]
  have hbA : Below w.heap.size w (w.alloc X) := (Below.refl _ w).alloc (Nat.le_refl _) X
  have hA := h.keep (G := F) (w' := w.alloc X) (fun k _ hk => hbA.block k hk) fun _ h => h
  have hm3 : MapAt (.int .i64) (w.alloc X).drew bt (bv T) := hA.m3
  obtain ⟨w2, hr, hm, ht⟩ := hm3.store_new (P := Try.prog) (t := 63) (k := 3) (e := 68) Try.underlying63 Try.underlying3 (key_i ((bs.length + 1 : Nat) : Int)) (bv_no fun e he => by have := hT e he; omega) (.pointer (some ⟨w.heap.size, 0, none⟩))
  have hs2 : w2.heap.size = w.heap.size + 1 := by rw [ht.size]; show (w.alloc X).heap.size = _; simp
  have other : ∀ k, k ≠ bt → w2.heap[k]? = (w.alloc X).heap[k]? := fun k hk => ht.other hk
  have hbt := h.m3.lt
  have hx2 : w2.heap[w.heap.size]? = some (.cells (bodyV (newX m0 m1 m2 m3) (.pointer none) (.slice none 0 0)) 74 (0, 0)) := by rw [other _ (by omega), heap_alloc_new, hX]; rfl
  have R2 : RN F p cap made now d0 cs T K bs w2 bd bf bt bk vp → True := fun _ => trivial
  obtain ⟨a1, a2, a3⟩ := hA.apart hA.m3
  have old : ∀ k, k < w.heap.size → k ≠ bt → w2.heap[k]? = w.heap[k]? := fun k hk hne => (other k hne).trans (Lib.alloc_old w X k hk)
  refine ⟨w2, hr, ⟨(old p h.lt a1).trans h.blk, .inl h.fp, .inl h.f1, .inl h.f2, .inl h.f3, .inl h.f4, h.n1, h.n2, h.n3, h.n4, h.n5, h.n6, h.m1.keep (old _ h.m1.lt h.n2), h.m2.keep (old _ h.m2.lt h.n4), hm, h.m4.keep (old _ h.m4.lt h.n6.symm), own_keep h.row fun k hk => ?_, fun k hk => .inl (h.rowF k hk), ?_⟩, ⟨ht.os.1, ht.os.2.1, ht.os.2.2, by omega, fun k hk hF => old k hk (fun e => hF (e ▸ h.f3))⟩, hs2⟩
  · obtain ⟨cur, hh⟩ := own_typed h.row hk
    exact old k (blk_lt hh) (a2 k hk)
  · have hB2 : Bods (ext F w w2) w2 bs (T ++ K) := h.bod.keep (fun e he k hk => old k (by
      rcases hk with rfl | hk
      · exact (h.bod.lt he).1
      · exact (h.bod.lt he).2 k hk) (by
      obtain ⟨i, x, _, _, hx⟩ := h.bod.at_ e he
      rcases hk with rfl | hk
      · obtain ⟨cur, hh⟩ := hx.blk; exact fun e => h.m3.ne_cells hh e.symm
      · obtain ⟨cur, fz, hh⟩ := hx.buf hk; exact fun e => h.m3.ne_cells hh e.symm)) fun k hk => .inl hk
    have hbuf : bufOf w2 w.heap.size = none := by rw [bufOf_eq hx2]; rfl
    have hlow : ∀ e ∈ T ++ K, e.2 < w.heap.size := fun e he => (h.bod.lt he).1
    refine ⟨fun e he => ?_, fun e he => ?_, fun e he f hf hef => ?_, fun e he f hf hne k hk => ?_⟩
    · rcases List.mem_cons.1 he with rfl | he
      · exact ⟨bs.length, newX m0 m1 m2 m3, rfl, by simp, ⟨_, _, hx2, .inl rfl, World.ownsRowF_nil _ _ _ _⟩⟩
      · obtain ⟨i, x, h1, h2, h3⟩ := hB2.at_ e he
        exact ⟨i, x, h1, by rw [List.getElem?_append_left (List.getElem?_eq_some_iff.1 h2).1]; exact h2, h3⟩
    · rcases List.mem_cons.1 he with rfl | he
      · exact ⟨.inr ⟨Nat.le_refl _, by omega⟩, fun k hk => by simp only at hk; rw [hbuf] at hk; cases hk⟩
      · exact hB2.own e he
    · rcases List.mem_cons.1 he with rfl | he <;> rcases List.mem_cons.1 hf with rfl | hf
      · rfl
      · have := hlow f hf; simp only at hef; omega
      · have := hlow e he; simp only at hef; omega
      · exact hB2.sep e he f hf hef
    · rcases List.mem_cons.1 he with rfl | he <;> rcases List.mem_cons.1 hf with rfl | hf
      · exact absurd rfl hne
      · simp only at hk; rw [hbuf] at hk; cases hk
      · simp only; rw [hbuf]; simp
      · exact hB2.buf e he f hf hne k hk
theorem Raw.small {F : Nat → Prop} {p cap made : Nat} {now d0 : Dr} {cs : List Chg} {T K : List (Nat × Nat)} {bs : List Bd} {w : World} (h : Raw F p cap made now d0 cs T K bs w) : Raw (fun k => F k ∧ k < w.heap.size) p cap made now d0 cs T K bs w := by
  obtain ⟨vd, vs, vt, vk, vp, hp, hF, hm, ho, hoF, hb, hn⟩ := h
  refine ⟨vd, vs, vt, vk, vp, hp, ⟨hF, blk_lt hp⟩, ?_, ho, fun k hk => ⟨hoF k hk, by obtain ⟨cur, hh⟩ := own_typed ho hk; exact blk_lt hh⟩, ⟨hb.at_, fun e he => ⟨⟨(hb.own e he).1, (hb.lt he).1⟩, fun k hk => ⟨(hb.own e he).2 k hk, (hb.lt he).2 k hk⟩⟩, hb.sep, hb.buf⟩, hn⟩
  rcases hm with ⟨h1, h2, h3, h4, h5, h6, h7, h8⟩ | ⟨bd, bf, bt, bk, rfl, rfl, rfl, rfl, f1, f2, f3, f4, n1, n2, n3, n4, n5, n6, m1, m2, m3, m4⟩
  · refine .inl ⟨h1, h2, h3, h4, h5, h6, h7, ?_⟩
    rcases h8 with h8 | ⟨bt, rfl, hF', hm⟩
    · exact .inl h8
    · exact .inr ⟨bt, rfl, ⟨hF', hm.lt⟩, hm⟩
  · exact .inr ⟨bd, bf, bt, bk, rfl, rfl, rfl, rfl, ⟨f1, m1.lt⟩, ⟨f2, m2.lt⟩, ⟨f3, m3.lt⟩, ⟨f4, m4.lt⟩, n1, n2, n3, n4, n5, n6, m1, m2, m3, m4⟩
theorem psx_small {F : Nat → Prop} {p : Nat} {st : St} {w : World} (h : PSx F p st w) : PSx (fun k => F k ∧ k < w.heap.size) p st w := by
  obtain ⟨d0, cs, T, K, hr, hi⟩ := h
  exact ⟨d0, cs, T, K, hr.small, hi⟩
theorem pdid_wide {F G : Nat → Prop} {p : Nat} {st : St} {w w' : World} (h : PDid PSx F p st w w') (hG : ∀ k, F k → G k) : PDid PSx G p st w w' :=
  ⟨psx_mono h.1 fun k hk => by
    rcases hk with hk | hk
    · exact .inl (hG k hk)
    · exact .inr hk, h.2.wide hG⟩
set_option maxHeartbeats 8000000 in
theorem create_q (F : Nat → Prop) (p : Nat) (st : St) (name : ByteArray) (m0 m1 m2 m3 : Int) (w : World) (h : PSx F p st w) (hw : Wf st) (hFl : ∀ k, F k → k < w.heap.size) :
    Calls Try.prog 10 #[.pointer (some ⟨p, 0, none⟩), .string name, .agg #[.int .i64 m0, .int .i64 m1, .int .i64 m2, .int .i64 m3]] w fun e w' =>
      e = .returned (.tuple #[.int .i64 (st.create name m0 m1 m2 m3).1.1, .int .i64 (st.create name m0 m1 m2 m3).1.2]) ∧ PDid PSx F p (st.create name m0 m1 m2 m3).2 w w' := by
  obtain ⟨d0, cs, T, K, vd, vs, vt, vk, vp, O⟩ := psx_open h
  obtain ⟨Y, hY⟩ : ∃ Y, Y = Obj.cells #[.int .i64 m0, .int .i64 m1, .int .i64 m2, .int .i64 m3] 27 := ⟨_, rfl⟩
  have hbA : Below w.heap.size w (w.alloc Y) := (Below.refl _ w).alloc (Nat.le_refl _) Y
  have hsA : (w.alloc Y).heap.size = w.heap.size + 1 := by simp
  have HN : Hid (Calls Try.prog 24 #[.string name] (w.alloc Y) fun e w' => e = .returned (.bool (okName name)) ∧ Below w.heap.size w w' ∧ w'.heap[w.heap.size]? = some (.cells #[.int .i64 m0, .int .i64 m1, .int .i64 m2, .int .i64 m3] 27 (0, 0))) := (isName_c name (w.alloc Y)).mono (by
    rintro e w' ⟨rfl, hb⟩
    refine ⟨rfl, hbA.trans (hb.mono (by omega)), ?_⟩
    rw [hb.block _ (by omega), heap_alloc_new, hY])
  have HP : Hid (PSx F p st w) := h
  rcases hok : okName name with _ | _
  · have HC : Hid (st.create name m0 m1 m2 m3 = ((0, 32), st)) := by show _ = _; unfold St.create; rw [if_pos hok]
    rw [hok] at HN
    rw [HC.out]
    clear h hw hok O hbA hsA
    subst hY
    go_enter Try.func10, Try.ntmps10
    go_wp2_with (go_at_call 24; refine HN.out.mono ?_; rintro e w1 ⟨rfl, hb1, hk1⟩)
    go_ret2
    exact ⟨rfl, pdid_refl HP.out hb1⟩
  rw [hok] at HN
  have HL : Hid (∀ W, Below w.heap.size w W → W.cell? ⟨p, 2, none⟩ = some vd ∧ (Instr.lookup 62 vd (.string name) true).run Try.prog W = .ok (.tuple #[.int .i64 (leads st.now name), .bool (decide (leads st.now name ≠ 0))]) W ∧ ∀ ty, (Builtin.len_ #[62] ty #[vd]).run Try.prog W = .ok (.int .i64 st.now.length) W) := fun W hb => by
    refine ⟨cell_below hb (disk_cells O.blk).2.2.1, ?_, fun ty => ?_⟩
    · have := (O.maps.v.1.keep hb).sv_look true (Inv.pos hw) name
      simpa using this
    · have := (O.maps.v.1.keep hb).len (P := Try.prog) Try.underlying62 ty
      rw [dv_len] at this; exact this
  by_cases hfull : leads st.now name = 0 ∧ 64 ≤ st.now.length
  · have HC : Hid (st.create name m0 m1 m2 m3 = ((0, 33), st)) := by
      show _ = _
      unfold St.create
      rw [if_neg (by rw [hok]; decide), if_pos hfull]
    rw [HC.out]
    rw [hfull.1, show decide ((0 : Nat) ≠ 0) = false by decide] at HL
    obtain ⟨n, hn⟩ : ∃ n, n = st.now.length := ⟨_, rfl⟩
    rw [← hn] at HL hfull
    have b0 : decide ((64 : Int) ≤ (n : Int)) = true := decide_eq_true (by omega)
    clear h hw hok O hbA hsA hn
    subst hY
    go_enter Try.func10, Try.ntmps10
    go_wp2_with (first
      | (go_at_call 24; refine HN.out.mono ?_; rintro e w1 ⟨rfl, hb1, hk1⟩; obtain ⟨x2, hl, hln⟩ := HL.out _ hb1; have HB1 : Hid (Below w.heap.size w w1) := hb1; have HLN : Hid (∀ ty, (Builtin.len_ #[62] ty #[vd]).run Try.prog w1 = .ok (.int .i64 n) w1) := hln; clear hb1 hk1 hln)
      | (at_lookup; refine wp_look _ rfl _ _ 62 true rfl _ _ _ rfl rfl hl ?_)
      | (at_len; refine wp_len_w _ rfl _ 62 rfl _ _ rfl (HLN.out _) ?_))
    go_ret2
    exact ⟨rfl, pdid_refl HP.out HB1.out⟩
  have HC : Hid (st.create name m0 m1 m2 m3 = ((st.bodies.length + 1, 0), { st with bodies := st.bodies ++ [⟨m0, m1, m2, m3, ⟨#[]⟩, 0⟩], dirs := st.dirs ++ [with_ st.now name (st.bodies.length + 1)] })) := by
    show _ = _
    unfold St.create
    rw [if_neg (by rw [hok]; decide), if_neg hfull]
  have hdw := O.inv.dw.now hw
  have hto := ok_ne hok
  have hmany := hw.many
  have hlen : cs.length ≤ 2097152 := by have := hw.long; have := O.inv.cs_len; omega
  have HM : Hid (∀ W, Below w.heap.size w W → W.heap[w.heap.size]? = some (.cells #[.int .i64 m0, .int .i64 m1, .int .i64 m2, .int .i64 m3] 27 (0, 0)) → Calls Try.prog 25 #[.pointer (some ⟨p, 0, none⟩)] W fun e w2 => e = .returned (.tuple #[]) ∧ Calls Try.prog 26 #[.pointer (some ⟨p, 0, none⟩), .string name] w2 fun e w3 => e = .returned (.tuple #[]) ∧ ∃ bt w4 w5, w3.cell? ⟨p, 1, none⟩ = some (.int .i64 st.bodies.length) ∧ w3.frozen? ⟨p, 1, none⟩ = false ∧ w3.setCell ⟨p, 1, none⟩ (.int .i64 ((st.bodies.length + 1 : Nat) : Int)) = w4 ∧
      w4.cell? ⟨p, 1, none⟩ = some (.int .i64 ((st.bodies.length + 1 : Nat) : Int)) ∧ w4.cell? ⟨p, 4, none⟩ = some (.map (some bt)) ∧ w4.heap[w.heap.size]? = some (.cells #[.int .i64 m0, .int .i64 m1, .int .i64 m2, .int .i64 m3] 27 (0, 0)) ∧
      (Instr.mapUpdate 63 (.map (some bt)) (.int .i64 ((st.bodies.length + 1 : Nat) : Int)) (.pointer (some ⟨w4.heap.size, 0, none⟩))).run Try.prog (w4.alloc (.cells #[.int .i64 m0, .int .i64 m1, .int .i64 m2, .int .i64 m3, .pointer none, .slice none 0 0, .int .i64 0] 74)).drew = .ok () w5 ∧
      w5.cell? ⟨p, 1, none⟩ = some (.int .i64 ((st.bodies.length + 1 : Nat) : Int)) ∧
      Hid (Calls Try.prog 27 #[.pointer (some ⟨p, 0, none⟩), .agg #[.string ⟨#[]⟩, .string name, .int .i64 ((st.bodies.length + 1 : Nat) : Int)]] w5 fun e w6 => e = .returned (.tuple #[]) ∧ w6.cell? ⟨p, 1, none⟩ = some (.int .i64 ((st.bodies.length + 1 : Nat) : Int)) ∧ Hid (PDid PSx F p (st.create name m0 m1 m2 m3).2 w w6))) := fun W hb hq => by
    have hsW := hb.size
    have hqW := blk_lt hq
    refine (makeMaps_c F p _ _ st.now d0 cs T K st.bodies W (O.below hb).raw).mono ?_
    rintro e w2 ⟨rfl, ⟨bd, bf, bt, bk, vp', R2⟩, k2⟩
    refine ⟨rfl, ?_⟩
    refine (giveUp_p name (ext F W w2) p _ _ st.now d0 cs T K st.bodies w2 bd bf bt bk vp' R2 hdw (Inv.pos hw) O.inv.num O.inv.apart).mono ?_
    rintro e w3 ⟨rfl, ⟨T1, K1, R3, G⟩, k3⟩
    obtain ⟨R4, k4⟩ := R3.madeUp (st.bodies.length + 1)
    have hT1 : ∀ e ∈ T1 ++ K1, e.1 ≤ st.bodies.length := fun e he => by
      obtain ⟨i, x, h1, h2, _⟩ := R4.bod.at_ e he
      have := (List.getElem?_eq_some_iff.1 h2).1
      omega
    obtain ⟨w5, hr5, R5, k5, hs5⟩ := R4.newBody m0 m1 m2 m3 (fun e he => hT1 e (List.mem_append_left _ he))
    have hnF : ∀ k, ext F W w2 k → k ≠ w.heap.size := fun k hk => by
      rcases hk with hk | hk
      · have := hFl k hk; omega
      · omega
    have s2 := k2.size
    have s3 := k3.size
    have s4 := k4.size
    have q2 : w2.heap[w.heap.size]? = W.heap[w.heap.size]? := k2.block _ hqW (fun e => by have := hFl _ e; omega)
    have q3 : w3.heap[w.heap.size]? = w2.heap[w.heap.size]? := k3.block _ (by omega) (fun e => hnF _ e rfl)
    have q4 := k4.block w.heap.size (by omega) (fun e => hnF _ e rfl)
    refine ⟨rfl, bt, _, w5, R3.cells.2.1, Lib.frozen_of_heap R3.blk 1, rfl, R4.cells.2.1, R4.cells.2.2.2.2.1, q4.trans (q3.trans (q2.trans hq)), hr5, R5.cells.2.1, ?_⟩
    have R5' : RN (ext (ext F W w2) (w3.setCell ⟨p, 1, none⟩ (.int .i64 ((st.bodies.length + 1 : Nat) : Int))) w5) p st.cap (st.bodies.length + 1) st.now d0 cs ((st.bodies.length + 1, (w3.setCell ⟨p, 1, none⟩ (.int .i64 ((st.bodies.length + 1 : Nat) : Int))).heap.size) :: T1) K1 (st.bodies ++ [newX m0 m1 m2 m3]) w5 bd bf bt bk vp' := R5
    refine (note_c ⟨⟨#[]⟩, name, st.bodies.length + 1⟩ _ p _ _ st.now d0 cs _ K1 _ w5 bd bf bt bk vp' R5' hlen).mono ?_
    rintro e w6 ⟨rfl, r6, k6⟩
    rw [app_create hdw name _ hto] at r6
    refine ⟨rfl, ?_, ?_⟩
    · obtain ⟨_, _, _, _, _, hp6, _⟩ := id r6
      exact (disk_cells hp6).2.1
    · rw [HC.out]
      have kk : Kp F w w5 := (Kp.of_below (F := F) hb).trans (k2.then (k3.trans (k4.trans k5)))
      have hsz5 : (w3.setCell ⟨p, 1, none⟩ (.int .i64 ((st.bodies.length + 1 : Nat) : Int))).heap.size = w3.heap.size := by simp [World.setCell]
      have hE : ∀ k, ext (ext F W w2) (w3.setCell ⟨p, 1, none⟩ (.int .i64 ((st.bodies.length + 1 : Nat) : Int))) w5 k → ext F w w5 k := fun k hk => by
        have := k5.size
        rcases hk with (hk | hk) | hk
        · exact .inl hk
        · exact .inr ⟨by omega, by omega⟩
        · exact .inr ⟨by omega, by omega⟩
      have hI : Inv { st with bodies := st.bodies ++ [newX m0 m1 m2 m3], dirs := st.dirs ++ [with_ st.now name (st.bodies.length + 1)] } d0 (cs ++ [⟨⟨#[]⟩, name, st.bodies.length + 1⟩]) ((st.bodies.length + 1, (w3.setCell ⟨p, 1, none⟩ (.int .i64 ((st.bodies.length + 1 : Nat) : Int))).heap.size) :: T1) K1 := by
        refine inv_next O.inv ⟨⟨#[]⟩, name, st.bodies.length + 1⟩ (by rw [app_create hdw name _ hto]) ?_ ?_ ?_ ?_
        · have hs := step_DW O.inv.dw hw (o := ⟨1, 0, 0, name, ⟨#[]⟩, m0, m1, m2, m3, .slice none 0 0, []⟩)
          have e : st.step ⟨1, 0, 0, name, ⟨#[]⟩, m0, m1, m2, m3, .slice none 0 0, []⟩ = (st.create name m0 m1 m2 m3).2 := by unfold St.step; simp
          rw [e, HC.out] at hs
          exact hs
        · rw [app_create hdw name _ hto, List.map_cons]
          exact (G.num.cons _).trans (with_nums st.now name (st.bodies.length + 1)).symm
        · intro e he
          rcases G.keys e he with h1 | h1
          · exact .inl (by rw [List.map_cons]; exact List.mem_cons_of_mem _ h1)
          · exact .inr h1
        · intro e he f hf
          rcases List.mem_cons.1 hf with rfl | hf
          · have := hT1 e (List.mem_append_right _ he)
            simp only; omega
          · exact G.apart e he f hf
      have s6 := k6.size
      have s5 := kk.size
      refine ⟨⟨d0, _, _, K1, ?_, hI⟩, kk.then (k6.wide hE)⟩
      have hnow : ({ st with bodies := st.bodies ++ [newX m0 m1 m2 m3], dirs := st.dirs ++ [with_ st.now name (st.bodies.length + 1)] } : St).now = with_ st.now name (st.bodies.length + 1) := now_append _ _
      have hbl : (st.bodies ++ [newX m0 m1 m2 m3]).length = st.bodies.length + 1 := by simp
      show Raw (ext F w w6) p st.cap (st.bodies ++ [newX m0 m1 m2 m3]).length ({ st with bodies := st.bodies ++ [newX m0 m1 m2 m3], dirs := st.dirs ++ [with_ st.now name (st.bodies.length + 1)] } : St).now d0 _ _ K1 (st.bodies ++ [newX m0 m1 m2 m3]) w6
      rw [hnow, hbl]
      refine r6.keep (fun _ _ _ => rfl) fun k hk => ?_
      rcases hk with hk | hk
      · rcases hE k hk with h1 | h1
        · exact .inl h1
        · exact .inr ⟨h1.1, by omega⟩
      · exact .inr ⟨by omega, hk.2⟩
  have HC1 : Hid ((st.create name m0 m1 m2 m3).1 = (st.bodies.length + 1, 0)) := by show _ = _; rw [HC.out]
  obtain ⟨R, hR⟩ : ∃ R, R = (st.create name m0 m1 m2 m3).2 := ⟨_, rfl⟩
  rw [← hR] at HM
  rw [HC1.out, ← hR]
  obtain ⟨N, hN⟩ : ∃ N, N = st.bodies.length := ⟨_, rfl⟩
  rw [← hN] at HM hmany
  rw [← hN]
  obtain ⟨n, hn⟩ : ∃ n, n = st.now.length := ⟨_, rfl⟩
  obtain ⟨l, hl⟩ : ∃ l, l = leads st.now name := ⟨_, rfl⟩
  rw [← hn, ← hl] at HL hfull
  have hw1 : IntKind.i64.wrap ((N : Int) + 1) = ((N + 1 : Nat) : Int) := by rw [wrap_i64 (by omega)]; omega
  obtain ⟨M, hM⟩ : ∃ M, M = N + 1 := ⟨_, rfl⟩
  dsimp only
  rw [← hM] at HM hw1 ⊢
  clear hM
  clear h hw hok O hbA hsA hn hl HC HC1 hR hN hdw hto hlen hFl
  subst hY
  by_cases hl0 : l = 0
  · subst hl0
    have hn64 : n < 64 := by omega
    rw [show decide ((0 : Nat) ≠ 0) = false by decide] at HL
    have b0 : decide ((64 : Int) ≤ (n : Int)) = false := decide_eq_false (by omega)
    clear hfull
    go_enter Try.func10, Try.ntmps10
    go_wp2_with (first
      | (go_at_call 24; refine HN.out.mono ?_; rintro e w1 ⟨rfl, hb1, hk1⟩; obtain ⟨x2, hl, hln⟩ := HL.out _ hb1; have HM1 := HM.out _ hb1 hk1; have HMM : Hid (type_of% HM1) := HM1; have HLN : Hid (∀ ty, (Builtin.len_ #[62] ty #[vd]).run Try.prog w1 = .ok (.int .i64 n) w1) := hln; clear hb1 hk1 hln HM1)
      | (at_lookup; refine wp_look _ rfl _ _ 62 true rfl _ _ _ rfl rfl hl ?_)
      | (at_len; refine wp_len_w _ rfl _ 62 rfl _ _ rfl (HLN.out _) ?_)
      | (go_at_call 25; refine HMM.out.mono ?_; rintro e w2 ⟨rfl, hg2⟩; have HG2 : Hid (type_of% hg2) := hg2; clear hg2)
      | (go_at_call 26; refine HG2.out.mono ?_; rintro e w3 ⟨rfl, bt, w4, w5, z1, z2, z3, z4, z5, z6, z7, z8, HNT⟩; have y0 : w4.cell? ⟨w.heap.size, 0, none⟩ = some (.int .i64 m0) := (by rw [Lib.cell_of_heap z6]; rfl); have y1 : w4.cell? ⟨w.heap.size, 1, none⟩ = some (.int .i64 m1) := (by rw [Lib.cell_of_heap z6]; rfl); have y2 : w4.cell? ⟨w.heap.size, 2, none⟩ = some (.int .i64 m2) := (by rw [Lib.cell_of_heap z6]; rfl); have y3 : w4.cell? ⟨w.heap.size, 3, none⟩ = some (.int .i64 m3) := (by rw [Lib.cell_of_heap z6]; rfl); clear z6; have v1 : (w4.alloc (.cells #[.int .i64 m0, .int .i64 m1, .int .i64 m2, .int .i64 m3, .pointer none, .slice none 0 0, .int .i64 0] 74)).cell? ⟨p, 1, none⟩ = some (.int .i64 M) := cell_below ((Below.refl _ w4).alloc (Nat.le_refl _) _) z4; have v4 : (w4.alloc (.cells #[.int .i64 m0, .int .i64 m1, .int .i64 m2, .int .i64 m3, .pointer none, .slice none 0 0, .int .i64 0] 74)).cell? ⟨p, 4, none⟩ = some (.map (some bt)) := cell_below ((Below.refl _ w4).alloc (Nat.le_refl _) _) z5))
    go_region
    all_goals
      go_wp2_with (go_at_call 27; refine HNT.out.mono ?_; rintro e w6 ⟨rfl, c6, HR⟩)
      go_ret2
      exact ⟨rfl, HR.out⟩
  · obtain ⟨k, rfl⟩ : ∃ k, l = k + 1 := ⟨l - 1, by omega⟩
    rw [show decide ((k + 1 : Nat) ≠ 0) = true by simp] at HL
    clear hfull hl0
    go_enter Try.func10, Try.ntmps10
    go_wp2_with (first
      | (go_at_call 24; refine HN.out.mono ?_; rintro e w1 ⟨rfl, hb1, hk1⟩; obtain ⟨x2, hl, hln⟩ := HL.out _ hb1; have HM1 := HM.out _ hb1 hk1; have HMM : Hid (type_of% HM1) := HM1; have HLN : Hid (∀ ty, (Builtin.len_ #[62] ty #[vd]).run Try.prog w1 = .ok (.int .i64 n) w1) := hln; clear hb1 hk1 hln HM1)
      | (at_lookup; refine wp_look _ rfl _ _ 62 true rfl _ _ _ rfl rfl hl ?_)
      | (at_len; refine wp_len_w _ rfl _ 62 rfl _ _ rfl (HLN.out _) ?_)
      | (go_at_call 25; refine HMM.out.mono ?_; rintro e w2 ⟨rfl, hg2⟩; have HG2 : Hid (type_of% hg2) := hg2; clear hg2)
      | (go_at_call 26; refine HG2.out.mono ?_; rintro e w3 ⟨rfl, bt, w4, w5, z1, z2, z3, z4, z5, z6, z7, z8, HNT⟩; have y0 : w4.cell? ⟨w.heap.size, 0, none⟩ = some (.int .i64 m0) := (by rw [Lib.cell_of_heap z6]; rfl); have y1 : w4.cell? ⟨w.heap.size, 1, none⟩ = some (.int .i64 m1) := (by rw [Lib.cell_of_heap z6]; rfl); have y2 : w4.cell? ⟨w.heap.size, 2, none⟩ = some (.int .i64 m2) := (by rw [Lib.cell_of_heap z6]; rfl); have y3 : w4.cell? ⟨w.heap.size, 3, none⟩ = some (.int .i64 m3) := (by rw [Lib.cell_of_heap z6]; rfl); clear z6; have v1 : (w4.alloc (.cells #[.int .i64 m0, .int .i64 m1, .int .i64 m2, .int .i64 m3, .pointer none, .slice none 0 0, .int .i64 0] 74)).cell? ⟨p, 1, none⟩ = some (.int .i64 M) := cell_below ((Below.refl _ w4).alloc (Nat.le_refl _) _) z4; have v4 : (w4.alloc (.cells #[.int .i64 m0, .int .i64 m1, .int .i64 m2, .int .i64 m3, .pointer none, .slice none 0 0, .int .i64 0] 74)).cell? ⟨p, 4, none⟩ = some (.map (some bt)) := cell_below ((Below.refl _ w4).alloc (Nat.le_refl _) _) z5))
    go_region
    all_goals
      go_wp2_with (go_at_call 27; refine HNT.out.mono ?_; rintro e w6 ⟨rfl, c6, HR⟩)
      go_ret2
      exact ⟨rfl, HR.out⟩
theorem create_p (F : Nat → Prop) (p : Nat) (st : St) (name : ByteArray) (m0 m1 m2 m3 : Int) (w : World) (h : PSx F p st w) (hw : Wf st) :
    Calls Try.prog 10 #[.pointer (some ⟨p, 0, none⟩), .string name, .agg #[.int .i64 m0, .int .i64 m1, .int .i64 m2, .int .i64 m3]] w fun e w' =>
      e = .returned (.tuple #[.int .i64 (st.create name m0 m1 m2 m3).1.1, .int .i64 (st.create name m0 m1 m2 m3).1.2]) ∧ PDid PSx F p (st.create name m0 m1 m2 m3).2 w w' :=
  (create_q (fun k => F k ∧ k < w.heap.size) p st name m0 m1 m2 m3 w (psx_small h) hw fun k hk => hk.2).mono fun e w' h => ⟨h.1, pdid_wide h.2 fun k hk => hk.1⟩
end Go.Proofs.Ytodjgbmfmpbkjab
