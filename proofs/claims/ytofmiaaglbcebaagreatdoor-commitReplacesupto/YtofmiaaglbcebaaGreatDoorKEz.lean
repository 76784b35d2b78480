import Derived.Test.YtofmiaaglbcebaaGreatDoorKDz

-- commit.exchange: its walk.
namespace Go.Proofs.YtofmiaaglbcebaaGreatDoor
open Go.RowKit
set_option linter.unusedVariables false
variable {PS : (Nat → Prop) → Nat → St → World → Prop}
theorem EDid.ex {G0 G : Nat → Prop} {q : Nat} {v v' : Vs} {w0 w w' : World} {x : Value} {op name : ByteArray} {e : Nat} {ev : Value} (h : Ex PS G0 q v w0 G w x) (d : EDid PS G q v' w w' op name e ev) : ∃ G', Ex PS G0 q v' w0 G' w' x ∧ ErrO w' G' (w0.heap.size + 3) op name e ev := by
  obtain ⟨B, h1, h2, h3, h4, h5⟩ := d
  have hb := h.big
  refine ⟨_, h.turn h4 h5 (fun k hk => ?_) (fun k hk => .inl hk), (h3.out fun k hk => ?_).low (by omega)⟩
  · rcases hk with hk | hk
    · exact .inl hk
    · exact .inr hk.1
  · rcases hk with hk | hk
    · have := h.vol.low k hk; omega
    · exact hk.2
/-- The end: what the deferred call has left. -/
theorem Ex.done {G0 G : Nat → Prop} {q : Nat} {v : Vs} {w0 w : World} {x : Value} {op name : ByteArray} {e : Nat} (h : Ex PS G0 q v w0 G w x) (he : ErrO w G (w0.heap.size + 3) op name e x) : EDg PS G0 q v w0 w op name e x :=
  ⟨G, h.vol, fun k hk => by rcases h.sub k hk with h' | h'; exact .inl h'; exact .inr (by omega), h.sup, h.kept, he.low (by omega)⟩
theorem ErrO.set {w : World} {G : Nat → Prop} {B : Nat} {op name : ByteArray} {e : Nat} {ev : Value} (h : ErrO w G B op name e ev) {j : Nat} (hj : j < B) (y : Value) : ErrO (w.setCell ⟨j, 0, none⟩ y) G B op name e ev := by
  rcases h with h | ⟨h0, b, h1, h2, h3, h4⟩
  · exact .inl h
  · exact .inr ⟨h0, b, h1, h2, (Below.heap_setCell _ _ _ _ (by show b ≠ j; omega)).trans h3, h4⟩
theorem Ex.turnF {G0 G F G' : Nat → Prop} {q : Nat} {v v' : Vs} {w0 w w' : World} {x : Value} (h : Ex PS G0 q v w0 G w x) (hF : ∀ k, F k → G k ∨ w0.heap.size + 3 ≤ k) (hv : PV PS G' q v' w') (hk : Kp F w w') (h1 : ∀ k, G' k → G k ∨ w.heap.size ≤ k) (h2 : ∀ k, G k → G' k) : Ex PS G0 q v' w0 G' w' x := by
  have hb := h.big
  have nin : ∀ j, w0.heap.size ≤ j → j < w0.heap.size + 3 → ¬ F j := fun j g1 g2 hj => by
    rcases hF j hj with h' | h'
    · exact h.nin g1 g2 h'
    · omega
  refine ⟨hv, fun k hk' => ?_, fun k hk' => h2 k (h.sup k hk'), h.low0, (hk.block _ (by omega) (nin _ (by omega) (by omega))).trans h.fsb, (hk.block _ (by omega) (nin _ (by omega) (by omega))).trans h.err, h.kept.comp hk fun i hi => ?_⟩
  · rcases h1 k hk' with h' | h'
    · exact h.sub k h'
    · exact .inr (by omega)
  · rcases hF i hi with h' | h'
    · rcases h.sub i h' with h' | h'
      · exact .inl h'
      · exact .inr (by omega)
    · exact .inr (by omega)
theorem EDk.ex {G0 G : Nat → Prop} {q b : Nat} {v v' : Vs} {w0 w w' : World} {x : Value} {op name : ByteArray} {e : Nat} {ev : Value} (h : Ex PS G0 q v w0 G w x) (hb3 : w0.heap.size + 3 ≤ b) (d : EDk PS (fun k => G k ∨ k = b) G q v' w w' op name e ev) : ∃ G', Ex PS G0 q v' w0 G' w' x ∧ ErrO w' G' (w0.heap.size + 3) op name e ev := by
  obtain ⟨B, h1, h2, h3, h4, h5⟩ := d
  have hb := h.big
  refine ⟨_, h.turnF (fun k hk => ?_) h4 h5 (fun k hk => ?_) (fun k hk => .inl hk), (h3.out fun k hk => ?_).low (by omega)⟩
  · rcases hk with hk | hk
    · exact .inl hk
    · exact .inr (by omega)
  · rcases hk with hk | hk
    · exact .inl hk
    · exact .inr hk.1
  · rcases hk with hk | hk
    · have := h.vol.low k hk; omega
    · exact hk.2
theorem ErrO.err {w : World} {G : Nat → Prop} {B : Nat} {op name : ByteArray} {e : Nat} {ev : Value} (h : ErrO w G B op name e ev) : (e = 0 → ev = .nilIface) ∧ (e ≠ 0 → ∃ b, ev = .iface 112 (.pointer (some ⟨b, 0, none⟩))) :=
  ⟨fun e => by subst e; exact h.is.nil, fun e => h.is.some e⟩
/-- Remove by the deferred call. -/
theorem undo_done (C : PC PS) {G0 G : Nat → Prop} {q : Nat} {v : Vs} {w0 w : World} {eb : Nat} {op name : ByteArray} {e : Nat} (he0 : e ≠ 0) (h : Ex PS G0 q v w0 G w (.iface 112 (.pointer (some ⟨eb, 0, none⟩)))) (he : ErrO w G (w0.heap.size + 3) op name e (.iface 112 (.pointer (some ⟨eb, 0, none⟩)))) (hw : Wf v.st) (hn : v.cnt ≤ 4194304) :
    CallsD Tryz.prog 71 #[.pointer (some ⟨w0.heap.size + 2, 0, none⟩), .pointer (some ⟨w0.heap.size, 0, none⟩)] .returning w fun r u' w' => u' = .returning ∧ (r = .returned (.tuple #[]) ∧ EDg PS G0 q (v.remove tmpB).2 w0 w' op name e (.iface 112 (.pointer (some ⟨eb, 0, none⟩))) ∧ w'.cell? ⟨w0.heap.size + 2, 0, none⟩ = some (.iface 112 (.pointer (some ⟨eb, 0, none⟩)))) := by
  obtain ⟨c1, c2, c3⟩ := h.cells
  refine (undoD_err C G q v _ _ eb .returning w h.vol hw hn c2 c1).mono ?_
  rintro r u' w' ⟨rfl, rfl, hd1, hd2⟩
  have hE := h.turn hd1 hd2 (fun k hk => by rcases hk with hk | hk; exact .inl hk; exact .inr hk.1) (fun k hk => .inl hk)
  have hO := he.kept hd2 (fun k hk => .inr hk) (G' := ext G w w') (fun k hk => by rcases hk with hk | hk; exact .inl hk; exact .inr hk.1)
  exact ⟨rfl, rfl, hE.done hO, hE.cells.2.1⟩
theorem fill_at (x : Hd) (data : ByteArray) (n : Nat) : ∀ (k : Nat) (v : Vs), (Vs.fillN x data n k v).1.2 = 4 ∨ (Vs.fillN x data n k v).1.2 = 5 := by
  induction n with
  | zero => intro k v; exact .inr rfl
  | succ n ih =>
    intro k v
    unfold Vs.fillN
    split
    · exact .inl rfl
    · exact ih _ _
set_option maxRecDepth 100000 in
set_option maxHeartbeats 8000000 in
theorem cexch_c (C : PC PS) (G : Nat → Prop) (q : Nat) (v : Vs) (name data : ByteArray) (m0 m1 m2 m3 : Int) (w : World) (kk : Nat) (h : PV PS G q v w) (hv : Vf v kk) (hk : kk + nP data + 6 < 2097151) (hd : data.size ≤ 140737488355328) :
    Calls Tryz.prog 50 #[.pointer (some ⟨q, 0, none⟩), .string name, .string data, .agg #[.int .i64 m0, .int .i64 m1, .int .i64 m2, .int .i64 m3]] w fun r w' => ∃ ev, r = .returned ev ∧ EDg PS G q (v.exch name data m0 m1 m2 m3).2 w w' (opAt (v.exch name data m0 m1 m2 m3).1.2) tmpB (v.exch name data m0 m1 m2 m3).1.1 ev := by
  obtain ⟨X0, hX0⟩ : ∃ X, X = Obj.cells #[.pointer (some ⟨q, 0, none⟩)] 25 := ⟨_, rfl⟩
  obtain ⟨X1, hX1⟩ : ∃ X, X = Obj.cells #[.int .i64 m0, .int .i64 m1, .int .i64 m2, .int .i64 m3] 30 := ⟨_, rfl⟩
  obtain ⟨X2, hX2⟩ : ∃ X, X = Obj.cells #[.nilIface] 56 := ⟨_, rfl⟩
  obtain ⟨W, hW⟩ : ∃ W, W = ((w.alloc X0).alloc X1).alloc X2 := ⟨_, rfl⟩
  have hbW : Below w.heap.size w W := by rw [hW]; exact (((Below.refl _ w).alloc (Nat.le_refl _) X0).alloc (by simp) X1).alloc (by simp; omega) X2
  have hsW : W.heap.size = w.heap.size + 3 := by rw [hW]; simp
  have hb0 : W.heap[w.heap.size]? = some X0 := by
    rw [hW, Below.heap_alloc _ _ _ (by simp; omega), Below.heap_alloc _ _ _ (by simp)]; exact heap_alloc_new w X0
  have hb2 : W.heap[w.heap.size + 2]? = some X2 := by
    rw [hW]; have := heap_alloc_new ((w.alloc X0).alloc X1) X2; simpa using this
  have hEx : Ex PS G q v w G W .nilIface := ⟨h.below C hbW, fun k hk => .inl hk, fun k hk => hk, h.low, by rw [hb0, hX0], by rw [hb2, hX2], Kp.of_below hbW⟩
  have hmf : ∀ (fn : Fn) (first cap : Array Value) (w : World), (Instr.makeFunc fn first cap).run Tryz.prog w = .ok (.func fn first cap) w := fun _ _ _ _ => rfl
  have hcr := sCreate_c C G q v tmpB m0 m1 m2 m3 W hEx.vol hv.wf (by have := hv.cnt; omega)
  have hv1 := hv.create (by omega) tmpB m0 m1 m2 m3
  by_cases hec : (v.create tmpB m0 m1 m2 m3).1.2 = 0
  case neg =>
    have HC : Hid (Calls Tryz.prog 39 #[.pointer (some ⟨q, 0, none⟩), .string ⟨#[97, 114, 46, 116, 109, 112, 126]⟩, .agg #[.int .i64 m0, .int .i64 m1, .int .i64 m2, .int .i64 m3]] W fun e w' => ∃ eb, e = .returned (.tuple #[.pointer none, .iface 112 (.pointer (some ⟨eb, 0, none⟩))]) ∧ ∃ G1, Ex PS G q (v.create tmpB m0 m1 m2 m3).2 w G1 w' .nilIface ∧ ErrO w' G1 (w.heap.size + 3) ⟨#[99, 114, 101, 97, 116, 101]⟩ tmpB (v.create tmpB m0 m1 m2 m3).1.2 (.iface 112 (.pointer (some ⟨eb, 0, none⟩)))) := by
      refine hcr.mono ?_
      rintro e w' ⟨hvv, ev, rfl, hc⟩
      rcases hc with ⟨_, h1, h2⟩ | ⟨h0, _⟩
      · obtain ⟨eb, h3⟩ := h2.err.2 hec
        subst h3; subst h1
        obtain ⟨G1, g1, g2⟩ := h2.ex hEx
        exact ⟨eb, rfl, G1, g1, g2⟩
      · exact absurd h0 hec
    have HE : Hid (v.exch name data m0 m1 m2 m3 = (((v.create tmpB m0 m1 m2 m3).1.2, 3), ((v.create tmpB m0 m1 m2 m3).2.remove tmpB).2)) := by
      show _ = _
      unfold Vs.exch Vs.written
      rw [if_pos hec]
      unfold Vs.named
      rw [if_pos hec]
      unfold Vs.undone
      rw [if_pos hec]
    have HVF : Hid ((v.create tmpB m0 m1 m2 m3).1.2 ≠ 0 ∧ Wf (v.create tmpB m0 m1 m2 m3).2.st ∧ (v.create tmpB m0 m1 m2 m3).2.cnt ≤ 4194304) := ⟨hec, hv1.wf, by have := hv1.cnt; omega⟩
    rw [HE.out]
    simp only
    subst hX0; subst hX1; subst hX2
    rw [hW] at HC
    clear hcr hEx hb0 hb2 hsW hbW hW h hv hk hd hv1 hec HE
    go_enter_defers Tryz.func50, Tryz.ntmps50
    go_wp2_with (go_at_call 39; refine HC.out.mono ?_; rintro e w1 ⟨eb, rfl, G1, hx, ho⟩; obtain ⟨c1, c2, c3⟩ := hx.cells)
    obtain ⟨g1, g2, g3⟩ := HVF.out
    refine leaves_cons (f := 71) (args := #[.pointer (some ⟨w.heap.size + 2, 0, none⟩), .pointer (some ⟨w.heap.size, 0, none⟩)]) (by simp) (by simp [go_sem]) ?_
    refine (undo_done C g1 ((hx.set C _).set C _) ((ho.set (by omega) _).set (by omega) _) g2 g3).mono ?_
    rintro r u' w'' ⟨rfl, rfl, hfin, hcell⟩
    refine ⟨_, by simp [results, Tryz.results50, go_sem, hcell], _, rfl, hfin⟩
  case pos =>
    obtain ⟨v1, hv1e⟩ : ∃ v1, v1 = (v.create tmpB m0 m1 m2 m3).2 := ⟨_, rfl⟩
    obtain ⟨X, hXe⟩ : ∃ X : Hd, X = ⟨tmpB, (v.create tmpB m0 m1 m2 m3).1.1, v.round, false⟩ := ⟨_, rfl⟩
    obtain ⟨v2, hv2e⟩ : ∃ v2, v2 = Vs.fillN X data (nP data) 0 v1 := ⟨_, rfl⟩
    have hwr : v.written data m0 m1 m2 m3 = v2 := by unfold Vs.written; rw [if_neg (by simp [hec]), ← hXe, ← hv1e, ← hv2e]
    rw [← hv1e] at hv1
    have hv2 : Vf v2.2 (kk + 1 + nP data + 1) := by rw [hv2e]; exact hv1.fillN X data (nP data) 0
    have hXn : X.name = tmpB := by rw [hXe]
    have HC : Hid (Calls Tryz.prog 39 #[.pointer (some ⟨q, 0, none⟩), .string ⟨#[97, 114, 46, 116, 109, 112, 126]⟩, .agg #[.int .i64 m0, .int .i64 m1, .int .i64 m2, .int .i64 m3]] W fun e w' => ∃ b, e = .returned (.tuple #[.pointer (some ⟨b, 0, none⟩), .nilIface]) ∧ ∃ G1, Ex PS G q v1 w G1 w' .nilIface ∧ FileAt w' b q X ∧ ¬ G1 b ∧ w.heap.size + 3 ≤ b) := by
      refine hcr.mono ?_
      rintro e w' ⟨hvv, ev, rfl, hc⟩
      rcases hc with ⟨h0, _⟩ | ⟨_, h1, h2, b, G', h3, h4, h5, h6, h7, h8, h9⟩
      · exact absurd hec h0
      · subst h1; subst h3
        rw [hXe, hv1e]
        exact ⟨b, rfl, G', hEx.turn h5 h2 (fun k hk => by rcases h6 k hk with h' | h'; exact .inl h'; exact .inr h'.1) h7, h4, h8, by omega⟩
    have HF : Hid (∀ b G1 W1, Ex PS G q v1 w G1 W1 .nilIface → FileAt W1 b q X → ¬ G1 b → w.heap.size + 3 ≤ b → Calls Tryz.prog 73 #[.pointer (some ⟨b, 0, none⟩), .string data] W1 fun r w' => ∃ ev, r = .returned ev ∧ ∃ G2, Ex PS G q v2.2 w G2 w' .nilIface ∧ ErrO w' G2 (w.heap.size + 3) (fillOp v2.1.2) tmpB v2.1.1 ev) := fun b G1 W1 hx hf hn hb3 => by
      refine (cfill_c C G1 q v1 b X data W1 (kk + 1) hx.vol hf hn hv1 (by omega) hd).mono ?_
      rintro r w' ⟨ev, rfl, hdd⟩
      rw [← hv2e, hXn] at hdd
      exact ⟨ev, rfl, hdd.ex hx hb3⟩
    have HFS : Hid (∀ (W1 : World) b y, FileAt W1 b q X → w.heap.size + 3 ≤ b → FileAt (W1.setCell ⟨w.heap.size + 1 + 1, 0, none⟩ y) b q X) := fun W1 b y hf hb3 => by
      unfold FileAt at hf ⊢
      rw [Below.heap_setCell _ _ _ _ (by show b ≠ w.heap.size + 1 + 1; omega)]; exact hf
    by_cases hef : v2.1.1 = 0
    case neg =>
      have HE : Hid (v.exch name data m0 m1 m2 m3 = (v2.1, (v2.2.remove tmpB).2)) := by
        show _ = _
        unfold Vs.exch
        rw [hwr]
        unfold Vs.named
        rw [if_pos hef]
        unfold Vs.undone
        rw [if_pos hef]
      have hat : v2.1.2 = 4 ∨ v2.1.2 = 5 := by rw [hv2e]; exact fill_at X data (nP data) 0 v1
      have hop : fillOp v2.1.2 = opAt v2.1.2 := by rcases hat with h | h <;> rw [h] <;> rfl
      have HF2 : Hid (∀ b G1 W1, Ex PS G q v1 w G1 W1 .nilIface → FileAt W1 b q X → ¬ G1 b → w.heap.size + 3 ≤ b → Calls Tryz.prog 73 #[.pointer (some ⟨b, 0, none⟩), .string data] W1 fun r w' => ∃ eb, r = .returned (.iface 112 (.pointer (some ⟨eb, 0, none⟩))) ∧ ∃ G2, Ex PS G q v2.2 w G2 w' .nilIface ∧ ErrO w' G2 (w.heap.size + 3) (opAt v2.1.2) tmpB v2.1.1 (.iface 112 (.pointer (some ⟨eb, 0, none⟩)))) := fun b G1 W1 hx hf hn hb3 => by
        refine (HF.out b G1 W1 hx hf hn hb3).mono ?_
        rintro r w' ⟨ev, rfl, G2, g1, g2⟩
        obtain ⟨eb, g3⟩ := g2.err.2 hef
        subst g3
        rw [hop] at g2
        exact ⟨eb, rfl, G2, g1, g2⟩
      have HVF : Hid (v2.1.1 ≠ 0 ∧ Wf v2.2.st ∧ v2.2.cnt ≤ 4194304) := ⟨hef, hv2.wf, by have := hv2.cnt; omega⟩
      rw [HE.out]
      simp only
      subst hX0; subst hX1; subst hX2
      rw [hW] at HC
      clear hcr hEx hb0 hb2 hsW hbW hW h hv hk hd hv1 hec hef HE HF hv2 hwr hv1e hXe hv2e hXn hat hop
      go_enter_defers Tryz.func50, Tryz.ntmps50
      go_wp2_with (first
        | (go_at_call 39; refine HC.out.mono ?_; rintro e w1 ⟨b, rfl, G1, hx, hfa, hnb, hb3⟩; obtain ⟨c1, c2, c3⟩ := hx.cells)
        | (go_at_call 73; refine (HF2.out b G1 _ (hx.set C _) (HFS.out _ _ _ hfa hb3) hnb hb3).mono ?_; rintro e w2 ⟨eb, rfl, G2, hx2, ho2⟩; obtain ⟨e1, e2, e3⟩ := hx2.cells))
      obtain ⟨g1, g2, g3⟩ := HVF.out
      refine leaves_cons (f := 71) (args := #[.pointer (some ⟨w.heap.size + 2, 0, none⟩), .pointer (some ⟨w.heap.size, 0, none⟩)]) (by simp) (by simp [go_sem]) ?_
      refine (undo_done C g1 (hx2.set C _) (ho2.set (by omega) _) g2 g3).mono ?_
      rintro r u' w'' ⟨rfl, rfl, hfin, hcell⟩
      refine ⟨_, by simp [results, Tryz.results50, go_sem, hcell], _, rfl, hfin⟩
    case pos =>
      have HF2 : Hid (∀ b G1 W1, Ex PS G q v1 w G1 W1 .nilIface → FileAt W1 b q X → ¬ G1 b → w.heap.size + 3 ≤ b → Calls Tryz.prog 73 #[.pointer (some ⟨b, 0, none⟩), .string data] W1 fun r w' => r = .returned .nilIface ∧ ∃ G2, Ex PS G q v2.2 w G2 w' .nilIface) := fun b G1 W1 hx hf hn hb3 => by
        refine (HF.out b G1 W1 hx hf hn hb3).mono ?_
        rintro r w' ⟨ev, rfl, G2, g1, g2⟩
        rw [g2.err.1 hef]
        exact ⟨rfl, G2, g1⟩
      have HR : Hid (∀ G2 W2, Ex PS G q v2.2 w G2 W2 .nilIface → Calls Tryz.prog 74 #[.pointer (some ⟨q, 0, none⟩), .string ⟨#[97, 114, 46, 116, 109, 112, 126]⟩, .string name] W2 fun e w' => ∃ ev, e = .returned ev ∧ ∃ G3, Ex PS G q (v2.2.rename tmpB name).2 w G3 w' .nilIface ∧ ErrO w' G3 (w.heap.size + 3) ⟨#[114, 101, 110, 97, 109, 101]⟩ tmpB (v2.2.rename tmpB name).1 ev) := fun G2 W2 hx => by
        refine (sRename_c C G2 q v2.2 tmpB name W2 hx.vol hv2.wf (by have := hv2.cnt; omega)).mono ?_
        rintro e w' ⟨ev, rfl, hdd⟩
        exact ⟨ev, rfl, hdd.ex hx⟩
      have hv3 := hv2.rename (by omega) tmpB name
      have hE0 : v.exch name data m0 m1 m2 m3 = Vs.undone (((v2.2.rename tmpB name).1, 6), (v2.2.rename tmpB name).2) := by
        unfold Vs.exch
        rw [hwr]
        unfold Vs.named
        rw [if_neg (by simp [hef])]
      by_cases her : (v2.2.rename tmpB name).1 = 0
      case neg =>
        have HE : Hid (v.exch name data m0 m1 m2 m3 = (((v2.2.rename tmpB name).1, 6), ((v2.2.rename tmpB name).2.remove tmpB).2)) := by
          show _ = _
          rw [hE0]; unfold Vs.undone; rw [if_pos her]
        have HR2 : Hid (∀ G2 W2, Ex PS G q v2.2 w G2 W2 .nilIface → Calls Tryz.prog 74 #[.pointer (some ⟨q, 0, none⟩), .string ⟨#[97, 114, 46, 116, 109, 112, 126]⟩, .string name] W2 fun e w' => ∃ eb, e = .returned (.iface 112 (.pointer (some ⟨eb, 0, none⟩))) ∧ ∃ G3, Ex PS G q (v2.2.rename tmpB name).2 w G3 w' .nilIface ∧ ErrO w' G3 (w.heap.size + 3) (opAt 6) tmpB (v2.2.rename tmpB name).1 (.iface 112 (.pointer (some ⟨eb, 0, none⟩)))) := fun G2 W2 hx => by
          refine (HR.out G2 W2 hx).mono ?_
          rintro r w' ⟨ev, rfl, G3, g1, g2⟩
          obtain ⟨eb, g3⟩ := g2.err.2 her
          subst g3
          exact ⟨eb, rfl, G3, g1, g2⟩
        have HVF : Hid ((v2.2.rename tmpB name).1 ≠ 0 ∧ Wf (v2.2.rename tmpB name).2.st ∧ (v2.2.rename tmpB name).2.cnt ≤ 4194304) := ⟨her, hv3.wf, by have := hv3.cnt; omega⟩
        rw [HE.out]
        simp only
        subst hX0; subst hX1; subst hX2
        rw [hW] at HC
        clear hcr hEx hb0 hb2 hsW hbW hW h hv hk hd hv1 hec hef HE HF HR hv2 hwr hv1e hXe hv2e hXn hv3 hE0 her
        go_enter_defers Tryz.func50, Tryz.ntmps50
        go_wp2_with (first
          | (go_at_call 39; refine HC.out.mono ?_; rintro e w1 ⟨b, rfl, G1, hx, hfa, hnb, hb3⟩; obtain ⟨c1, c2, c3⟩ := hx.cells)
          | (go_at_call 73; refine (HF2.out b G1 _ (hx.set C _) (HFS.out _ _ _ hfa hb3) hnb hb3).mono ?_; rintro e w2 ⟨rfl, G2, hx2⟩; obtain ⟨e1, e2, e3⟩ := hx2.cells)
          | (go_at_call 74; refine (HR2.out G2 _ hx2).mono ?_; rintro e w3 ⟨eb, rfl, G3, hx3, ho3⟩; obtain ⟨f1, f2, f3⟩ := hx3.cells))
        obtain ⟨g1, g2, g3⟩ := HVF.out
        refine leaves_cons (f := 71) (args := #[.pointer (some ⟨w.heap.size + 2, 0, none⟩), .pointer (some ⟨w.heap.size, 0, none⟩)]) (by simp) (by simp [go_sem]) ?_
        refine (undo_done C g1 (hx3.set C _) (ho3.set (by omega) _) g2 g3).mono ?_
        rintro r u' w'' ⟨rfl, rfl, hfin, hcell⟩
        refine ⟨_, by simp [results, Tryz.results50, go_sem, hcell], _, rfl, hfin⟩
      case pos =>
        have HE : Hid (v.exch name data m0 m1 m2 m3 = ((0, 6), (v2.2.rename tmpB name).2)) := by
          show _ = _
          rw [hE0, her]; unfold Vs.undone; rw [if_neg (by simp)]
        have HR2 : Hid (∀ G2 W2, Ex PS G q v2.2 w G2 W2 .nilIface → Calls Tryz.prog 74 #[.pointer (some ⟨q, 0, none⟩), .string ⟨#[97, 114, 46, 116, 109, 112, 126]⟩, .string name] W2 fun e w' => e = .returned .nilIface ∧ ∃ G3, Ex PS G q (v2.2.rename tmpB name).2 w G3 w' .nilIface) := fun G2 W2 hx => by
          refine (HR.out G2 W2 hx).mono ?_
          rintro r w' ⟨ev, rfl, G3, g1, g2⟩
          rw [g2.err.1 her]
          exact ⟨rfl, G3, g1⟩
        rw [HE.out]
        simp only
        subst hX0; subst hX1; subst hX2
        rw [hW] at HC
        clear hcr hEx hb0 hb2 hsW hbW hW h hv hk hd hv1 hec hef HE HF HR hv2 hwr hv1e hXe hv2e hXn hv3 hE0 her
        go_enter_defers Tryz.func50, Tryz.ntmps50
        go_wp2_with (first
          | (go_at_call 39; refine HC.out.mono ?_; rintro e w1 ⟨b, rfl, G1, hx, hfa, hnb, hb3⟩; obtain ⟨c1, c2, c3⟩ := hx.cells)
          | (go_at_call 73; refine (HF2.out b G1 _ (hx.set C _) (HFS.out _ _ _ hfa hb3) hnb hb3).mono ?_; rintro e w2 ⟨rfl, G2, hx2⟩; obtain ⟨e1, e2, e3⟩ := hx2.cells)
          | (go_at_call 74; refine (HR2.out G2 _ hx2).mono ?_; rintro e w3 ⟨rfl, G3, hx3⟩; obtain ⟨f1, f2, f3⟩ := hx3.cells))
        have hx4 := hx3.set C .nilIface
        refine leaves_cons (f := 71) (args := #[.pointer (some ⟨w.heap.size + 2, 0, none⟩), .pointer (some ⟨w.heap.size, 0, none⟩)]) (by simp) (by simp [go_sem]) ?_
        refine (undoD_nil ⟨w.heap.size + 2, 0, none⟩ ⟨w.heap.size, 0, none⟩ .returning _ hx4.cells.2.1).mono ?_
        rintro r u' w'' ⟨rfl, rfl, rfl⟩
        have hcell := hx4.cells.2.1
        refine ⟨_, by simp only [results, Tryz.results50, go_sem]; simp [go_sem, hcell], _, rfl, hx4.done (.inl ⟨rfl, rfl⟩)⟩
end Go.Proofs.YtofmiaaglbcebaaGreatDoor
