
-- pass.
import Derived.Test.YtnnpdomfkedhpaaLB
import Derived.WalkMore
namespace Go.Proofs.Ytnnpdomfkedhpaa
open Go.ChangeShapes Go.WideShapes Go.ChangeAt Go.RowKit Go.MapKept
set_option linter.unusedVariables false
set_option maxRecDepth 100000
def PgK (F : Nat → Prop) (g K M : Nat) (s : Lk) (w : World) : Prop := PgR F g s (K + M * s.p.length) w ∧ s.d.length ≤ K + M * s.p.length
theorem PgX.into {F G : Nat → Prop} {g : Nat} {d r : List ByteArray} {p : List (Int × Int)} {D W : List ByteArray} {P : List (Int × Int)} {w : World} {vd vw vp : Value} {bd bw bp : Nat} (h : PgX F g d r p D W P w vd vw vp bd bw bp) (hg : ∀ b, b < w.heap.size → F b → G b) : PgX G g d r p D W P w vd vw vp bd bw bp :=
  { h with fg := hg _ h.glt h.fg, fd := hg _ h.sd.lt h.fd, fw := hg _ h.sw.lt h.fw, fp := hg _ h.sp.lt h.fp, od := ⟨h.od.1, fun k hk => hg _ (h.od.lt k hk) (h.od.2 k hk)⟩, ow := ⟨h.ow.1, fun k hk => hg _ (h.ow.lt k hk) (h.ow.2 k hk)⟩, op := ⟨h.op.1, fun k hk => hg _ (h.op.lt k hk) (h.op.2 k hk)⟩ }
theorem PgK.into {F G : Nat → Prop} {g K M : Nat} {s : Lk} {w : World} (h : PgK F g K M s w) (hg : ∀ b, b < w.heap.size → F b → G b) : PgK G g K M s w := by
  obtain ⟨⟨r, h1, h2, vd, vw, vp, bd, bw, bp, h3⟩, h4⟩ := h
  exact ⟨⟨r, h1, h2, vd, vw, vp, bd, bw, bp, h3.into hg⟩, h4⟩
theorem PgK.on {F : Nat → Prop} {g K M : Nat} {s : Lk} {w w' : World} (h : PgK F g K M s w) (hb : Below w.heap.size w w') : PgK F g K M s w' := ⟨h.1.on hb, h.2⟩
/-- what the names of a member are, wherever the library lies -/
theorem names_k (F : Nat → Prop) (v : Value) (LL : List (List ByteArray)) (k : Nat) (w : World) (h : RowLL F w v LL) :
    ∃ u, RowN F txL w u (LL.getD k []) ∧ ∀ W, Kp F w W → Calls Try.prog 30 #[v, .int .i64 k] W fun e w' => e = .returned u ∧ w' = W := by
  obtain ⟨vs, h1, h2, h3⟩ := h
  by_cases hk : k < vs.length
  · obtain ⟨u, hu⟩ : ∃ u, vs[k]? = some u := ⟨_, List.getElem?_eq_getElem hk⟩
    obtain ⟨l, hl⟩ : ∃ l, LL[k]? = some l := ⟨_, List.getElem?_eq_getElem (by omega)⟩
    refine ⟨u, ?_, fun W hW => ?_⟩
    · have := h3 k u l hu hl
      rwa [List.getD_eq_getElem?_getD, hl]
    · obtain ⟨b1, o1, p1, e1, d0⟩ := (h1.kp hW).row.va hu
      obtain ⟨n, hn⟩ : ∃ n, n = vs.length := ⟨_, rfl⟩
      rw [← hn] at e1 hk
      have kI : (k : Int) < (n : Int) := by omega
      have k0 : (0 : Int) ≤ (k : Int) := by omega
      clear h1 h2 h3 hu hl hn hW
      subst e1
      go_enter Try.func30, Try.ntmps30
      go_wp2
      go_ret
      exact ⟨rfl, rfl⟩
  · refine ⟨.slice none 0 0, ?_, fun W hW => ?_⟩
    · have : LL.getD k [] = [] := by rw [List.getD_eq_getElem?_getD, List.getElem?_eq_none (by omega)]; rfl
      rw [this]
      exact RowN.nil
    · obtain ⟨ao, cap, q1, _, _⟩ := h1.row.form
      obtain ⟨n, hn⟩ : ∃ n, n = vs.length := ⟨_, rfl⟩
      rw [← hn] at q1 hk
      have kI : (n : Int) ≤ (k : Int) := by omega
      clear h1 h2 h3 hn hW
      subst q1
      go_enter Try.func30, Try.ntmps30
      go_wp2
      go_ret
      exact ⟨rfl, rfl⟩
/-- what one library says, in memory -/
structure CatAt (F : Nat → Prop) (w : World) (ve va vn vf vg : Value) (bm : Nat) (L : Lb) : Prop where
  lib : LibAt F w ve va vn vf vg L
  mem : MpN w bm (plcF L.a 0)
  nf : ¬ F bm
theorem CatAt.kp {F : Nat → Prop} {w w' : World} {ve va vn vf vg : Value} {bm : Nat} {L : Lb} (h : CatAt F w ve va vn vf vg bm L) (hk : Kp F w w') : CatAt F w' ve va vn vf vg bm L := ⟨h.lib.kp hk, h.mem.kp hk h.nf, h.nf⟩
theorem CatAt.weak {F G : Nat → Prop} {w : World} {ve va vn vf vg : Value} {bm : Nat} {L : Lb} (h : CatAt F w ve va vn vf vg bm L) (hg : ∀ b, b < w.heap.size → G b → F b) : CatAt G w ve va vn vf vg bm L := ⟨h.lib.weak hg, h.mem, fun q => h.nf (hg bm h.mem.lt q)⟩
theorem getD_le {LL : List (List ByteArray)} {M : Nat} (h : ∀ l ∈ LL, l.length ≤ M) (k : Nat) : (LL.getD k []).length ≤ M := by
  rw [List.getD_eq_getElem?_getD]
  cases e : LL[k]? with
  | none => simp
  | some l => exact h l (List.mem_of_getElem? e)
theorem pullK {F : Nat → Prop} {g K M : Nat} {s : Lk} (x y : Int) {dv nv : Value} {ds ns : List ByteArray} {w : World} (h : PgK F g K M s w) (hF : ∀ b, w.heap.size ≤ b → F b) (hd : RowN F txL w dv ds) (hn : RowN F txL w nv ns) (h1 : ds.length ≤ M) (h2 : ns.length ≤ M) (hb : K + M * (s.p.length + 1) ≤ 4398046511104) (h3 : s.p.length ≤ 4398046511104) :
    Calls Try.prog 29 #[.pointer (some ⟨g, 0, none⟩), .agg #[.int .i64 x, .int .i64 y], dv, nv] w fun e w' => e = .returned (.tuple #[]) ∧ PgK F g K M (pullN s (x, y) ds ns) w' ∧ Kp F w w' := by
  have e1 : M * (s.p.length + 1) = M * s.p.length + M := by rw [Nat.mul_add, Nat.mul_one]
  have hd2 := h.2
  refine (pull_c F g s (K + M * s.p.length) x y dv nv ds ns w h.1 hF hd hn (by omega) (by omega) h3).mono ?_
  rintro e w' ⟨q1, q2, q3⟩
  have e2 : (pullN s (x, y) ds ns).p.length = s.p.length + 1 := by rw [pullN_p]; simp
  refine ⟨q1, ⟨?_, ?_⟩, q3⟩
  · rw [e2, e1]; exact q2.mono (by omega)
  · rw [e2, e1]; have := pullN_len s (x, y) ds ns; omega
end Go.Proofs.Ytnnpdomfkedhpaa
