
-- pull.
import Derived.Test.YtnnpdomfkedhpaaPDb
import Derived.Deep.RegionWith
import Derived.Deep.RegionLaw
import Derived.Deep.RegionHeld3
namespace Go.Proofs.Ytnnpdomfkedhpaa
open Go.ChangeShapes Go.WideShapes Go.ChangeAt Go.RowKit Go.MapKept
set_option linter.unusedVariables false
set_option maxRecDepth 100000
theorem blk_set {w : World} {b : Nat} {c : Array Value} {t : TypeId} {fr : Nat × Nat} (h : w.heap[b]? = some (.cells c t fr)) {k : Nat} (v : Value) : (w.setCell ⟨b, k, none⟩ v).heap[b]? = some (.cells (c.setIfInBounds k v) t fr) := by
  obtain ⟨hb, he⟩ := Array.getElem?_eq_some_iff.1 h
  simp [World.setCell, hb, Array.getElem_modify, he]
theorem kq_set (w : World) (b k : Nat) (v : Value) : Kq b w (w.setCell ⟨b, k, none⟩ v) := by
  refine ⟨rfl, rfl, rfl, by simp [World.setCell], fun j hj hl => ?_⟩
  have : ¬ b = j := fun e => hj e.symm
  simp [World.setCell, Array.getElem?_modify, this]
def PgR (F : Nat → Prop) (g : Nat) (s : Lk) (n : Nat) (w : World) : Prop := ∃ r, r.length ≤ n ∧ PgAt F g s r w
theorem PgR.on {F : Nat → Prop} {g : Nat} {s : Lk} {n : Nat} {w w' : World} (h : PgR F g s n w) (hb : Below w.heap.size w w') : PgR F g s n w' := by
  obtain ⟨r, h1, h2⟩ := h; exact ⟨r, h1, h2.on hb⟩
theorem PgR.mono {F : Nat → Prop} {g : Nat} {s : Lk} {n m : Nat} {w : World} (h : PgR F g s n w) (hb : n ≤ m) : PgR F g s m w := by
  obtain ⟨r, h1, h2⟩ := h; exact ⟨r, by omega, h2⟩
theorem defN_len (s : Lk) (n : ByteArray) : (defN s n).d.length ≤ s.d.length + 1 := by
  unfold defN; simp only; split <;> simp
theorem wantN_d (s : Lk) (n : ByteArray) : (wantN s n).d = s.d := by unfold wantN; split <;> rfl
theorem foldD_len (l : List ByteArray) : ∀ s : Lk, (l.foldl defN s).d.length ≤ s.d.length + l.length := by
  induction l with
  | nil => intro s; simp
  | cons x r ih => intro s; rw [List.foldl_cons]; have := ih (defN s x); have := defN_len s x; simp only [List.length_cons]; omega
theorem wantR_len (s : Lk) (r : List ByteArray) (n : ByteArray) : (wantR s r n).length ≤ r.length + 1 := by unfold wantR; split <;> simp
theorem foldW_d (l : List ByteArray) : ∀ s : Lk, (l.foldl wantN s).d = s.d := by
  induction l with
  | nil => intro s; rfl
  | cons x r ih => intro s; rw [List.foldl_cons, ih, wantN_d]
theorem pullN_len (s : Lk) (x : Int × Int) (ds ns : List ByteArray) : (pullN s x ds ns).d.length ≤ s.d.length + ds.length := by
  unfold pullN; rw [foldW_d]; exact foldD_len ds ⟨s.d, s.w, s.p ++ [x]⟩
theorem definR {F : Nat → Prop} {g : Nat} {s : Lk} {m : Nat} (n : ByteArray) {w : World} (h : PgR F g s m w) (hF : ∀ b, w.heap.size ≤ b → F b) (hn : s.d.length ≤ 4398046511104) :
    Calls Try.prog 31 #[.pointer (some ⟨g, 0, none⟩), .string n] w fun e w' => e = .returned (.tuple #[]) ∧ PgR F g (defN s n) m w' ∧ Kp F w w' := by
  obtain ⟨r, h1, h2⟩ := h
  refine (define_c F g s r n w h2 hF hn).mono ?_
  rintro e w' ⟨h3, h4, h5⟩
  exact ⟨h3, ⟨r, h1, h4⟩, h5⟩
theorem wantcR {F : Nat → Prop} {g : Nat} {s : Lk} {m : Nat} (n : ByteArray) {w : World} (h : PgR F g s m w) (hF : ∀ b, w.heap.size ≤ b → F b) (hn : m ≤ 4398046511104) :
    Calls Try.prog 32 #[.pointer (some ⟨g, 0, none⟩), .string n] w fun e w' => e = .returned (.tuple #[]) ∧ PgR F g (wantN s n) (m + 1) w' ∧ Kp F w w' := by
  obtain ⟨r, h1, h2⟩ := h
  refine (want_c F g s r n w h2 hF (by omega)).mono ?_
  rintro e w' ⟨h3, h4, h5⟩
  exact ⟨h3, ⟨_, by have := wantR_len s r n; omega, h4⟩, h5⟩
theorem Kp.undrew {F : Nat → Prop} {w w' : World} (h : Kp F w.drew w') : Kp F w w' := ⟨h.os, h.tape, h.output, h.size, h.block⟩
theorem stepG_all {α : Type} {c : α → List Value} {z e sl bytes : Nat} {F : Nat → Prop} {ops : Array Oper} {o : Oper} {a : Act} {W : World} {K : Act → World → Prop} {Q : Exit → Act → World → Prop} {EE : Prop} (E : El c z e sl bytes) (hgd : o.guard = none) (x y : Operand) (ho : o.op = .call { callee := .builtin .append, args := #[x, y], argTypes := #[sl, sl] })
    (v : Value) (L : List α) (m : α) (b cap : Nat) (hx : a.eval x = v) (hy : a.eval y = .slice (some ⟨b, 0, none⟩) 1 cap) (hO : OwnF F c z e W v L) (hR : RowG c W (.slice (some ⟨b, 0, none⟩) 1 cap) [m]) (hone : ∀ u ∈ c m, u.oneCell' = true) (hl : (L.length + 1) * (bytes + 1) ≤ 140737488355328) (hF : ∀ b, W.heap.size ≤ b → F b)
    (h : ∀ v' w', OwnF F c z e w' v' (L ++ [m]) → Kp (fun k => v.ownBlock = some k) W w' → (∀ g, v'.ownBlock = some g → v.ownBlock = some g ∨ W.heap.size ≤ g) → K (a.put o.dst v') w') : if Region.wanted o (yielded ops a.tmps) = true then Oper.wp Try.prog o a W K Q else EE := by
  have hw : Region.wanted o (yielded ops a.tmps) = true := by simp [Region.wanted, hgd]
  rw [if_pos hw]
  obtain ⟨zv, hinf, hzs⟩ := E.info
  obtain ⟨i0, hi, hz0, hz1, hz2⟩ := info_parts hinf
  have hl1 : L.length + 1 ≤ 140737488355328 := Nat.le_trans (Nat.le_mul_of_pos_right _ (by omega)) hl
  have hl2 : (L.length + 1) * bytes ≤ 140737488355328 := Nat.le_trans (Nat.mul_le_mul_left _ (by omega)) hl
  have hnew : ∀ j u, (c m)[j]? = some u → W.cell? ((⟨b, 0, none⟩ : Addr).add j) = some u := by
    obtain ⟨ao, cp, ev, _, _, _, h4⟩ := hR
    obtain ⟨b', off, e2, hc⟩ := h4 (by simp)
    injection ev with e1 _ _
    rw [← e1] at e2
    injection e2 with e2
    injection e2 with q1 q2 q3
    subst q1; subst q2
    intro j u hu
    rw [Addr.add_mid]
    exact hc j u (by simpa using hu)
  obtain ⟨v', w', hrun, r1, r2, _, r3⟩ := run_append_own_at (P := Try.prog) W 0 sl o.type e i0 zv z bytes E.sl hi hz0 hz1 hz2 hzs E.pos v L.length (L.flatMap c) hO.1 ⟨b, 0, none⟩ 1 cap (c m) (by rw [E.len, Nat.one_mul]) hnew hone (by unfold maxLen; omega) hl2 (Nat.zero_le _)
  unfold Oper.wp
  simp [execOp, ho, resolve, invoke, builtin, hx, hy, hrun, Result.andThen]
  obtain ⟨k1, k2⟩ := OwnF.grown (M := [m]) (n := L.length + 1) hF hO (by simp) (by simpa using r1) r2 r3
  refine h v' w' k1 (Kp.grown r2 (fun k hk => hk)) (fun g hg => ?_)
  rcases r3 with q | q
  · exact .inl (by rw [← q]; exact hg)
  · rw [q] at hg; injection hg with hg; exact .inr (by omega)
end Go.Proofs.Ytnnpdomfkedhpaa
