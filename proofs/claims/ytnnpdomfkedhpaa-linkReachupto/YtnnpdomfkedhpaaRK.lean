
-- meets, reached.
import Derived.Test.YtnnpdomfkedhpaaRJ
import Derived.Test.YtnnpdomfkedhpaaHB
namespace Go.Proofs.Ytnnpdomfkedhpaa
open Go.ChangeShapes Go.WideShapes Go.ChangeAt Go.RowKit Go.MapKept
set_option linter.unusedVariables false
set_option maxRecDepth 100000
/-- an object's three cells -/
structure Ov where
  k : Int
  f : Value
  g : Value
def ovL (x : Ov) : List Value := [.int .i64 x.k, x.f, x.g]
theorem ovL_len (x : Ov) : (ovL x).length = 3 := rfl
theorem RowG.ov {w : World} {v : Value} {L : List Ov} {k : Nat} {x : Ov} (h : RowG ovL w v L) (hx : L[k]? = some x) : ∃ b off cap, v = .slice (some ⟨b, off, none⟩) L.length cap ∧ w.cell? ⟨b, off + k * 3, none⟩ = some (.int .i64 x.k) ∧ w.cell? ⟨b, off + k * 3 + 1, none⟩ = some x.f ∧ w.cell? ⟨b, off + k * 3 + 2, none⟩ = some x.g := by
  obtain ⟨b, off, cap, e, _, _, hc⟩ := RowG.at ovL_len h hx
  exact ⟨b, off, cap, e, hc 0 _ rfl, hc 1 _ rfl, hc 2 _ rfl⟩
/-- objects in memory -/
structure ObsAt (F : Nat → Prop) (w : World) (v : Value) (ovs : List Ov) (O : List Ob) : Prop where
  row : RowN F ovL w v ovs
  len : ovs.length = O.length
  ea : ∀ (i : Nat) (x : Ov) (o : Ob), ovs[i]? = some x → O[i]? = some o → RowN F txL w x.f o.df ∧ RowN F txL w x.g o.nd
theorem ObsAt.kp {F : Nat → Prop} {w w' : World} {v : Value} {ovs : List Ov} {O : List Ob} (h : ObsAt F w v ovs O) (hk : Kp F w w') : ObsAt F w' v ovs O := ⟨h.row.kp hk, h.len, fun i x o hx ho => ⟨(h.ea i x o hx ho).1.kp hk, (h.ea i x o hx ho).2.kp hk⟩⟩
theorem ObsAt.weak {F G : Nat → Prop} {w : World} {v : Value} {ovs : List Ov} {O : List Ob} (h : ObsAt F w v ovs O) (hg : ∀ b, b < w.heap.size → G b → F b) : ObsAt G w v ovs O := ⟨h.row.weak hg (by decide) ovL_len, h.len, fun i x o hx ho => ⟨(h.ea i x o hx ho).1.weak hg (by decide) txL_len, (h.ea i x o hx ho).2.weak hg (by decide) txL_len⟩⟩
theorem meets_take {A B : List ByteArray} {k : Nat} {y : ByteArray} (h : A[k]? = some y) (h0 : meetsB (A.take k) B = false) (h1 : isIn B y = false) : meetsB (A.take (k + 1)) B = false := by
  rw [takeSucc h]
  unfold meetsB at h0 ⊢
  rw [List.any_append, h0]
  simp [h1]
set_option maxHeartbeats 4000000 in
theorem meets_c (v u : Value) (A B : List ByteArray) (w : World) (h : RowT w v A) (hu : RowT w u B) (hn : A.length < 4611686018427387904) (hB : B.length < 4611686018427387904) :
    Calls Try.prog 10 #[v, u] w fun e w' => e = .returned (.bool (meetsB A B)) ∧ w' = w := by
  obtain ⟨a1, c1, q1, _, _⟩ := h.form
  obtain ⟨n, hnn⟩ : ∃ n, n = A.length := ⟨_, rfl⟩
  have HN := hidK hnn
  have HV := hidK h
  have HHAS : Hid (∀ nm, Calls Try.prog 9 #[u, .string nm] w fun e w' => e = .returned (.bool (isIn B nm)) ∧ w' = w) := fun nm => has_c u B nm w hu hB
  subst q1
  rw [← hnn] at hn ⊢ HV
  clear h hnn hu
  go_enter Try.func10, Try.ntmps10
  go_wp2
  go_loopw [5] (fun i wx => ∃ k : Nat, i = .int .i64 k ∧ k ≤ n ∧ meetsB (A.take k) B = false ∧ wx = w) (fun i _ => n - (intOf i).toNat)
  case atStart => exact ⟨0, rfl, Nat.zero_le _, by simp [meetsB], rfl⟩
  case round =>
    obtain ⟨k, rfl, hkn, ho, hB'⟩ := hrel
    subst wr
    have HO := hidK ho
    clear ho
    by_cases hk : k < n
    · have kI : (k : Int) < (n : Int) := by omega
      have k0 : (0 : Int) ≤ (k : Int) := by omega
      have kw : IntKind.i64.wrap ((k : Int) + 1) = (k : Int) + 1 := by rw [IntKind.wrap_i64]; omega
      have hkl : k < A.length := by have := HN.out; omega
      obtain ⟨y, hy⟩ : ∃ x, A[k]? = some x := ⟨_, List.getElem?_eq_getElem hkl⟩
      obtain ⟨b1, o1, p1, e1, d0⟩ := HV.out.tx hy
      have HY := hidK hy
      have HH := hidK (HHAS.out y)
      injection e1 with e1 e1b e1c
      subst e1
      clear hy hkl e1b e1c HV
      cases hi : isIn B y with
      | true =>
        rw [hi] at HH
        have HI := hidK hi
        clear hi
        go_wp2_with (go_at_call 9; refine HH.out.mono ?_; rintro e w2 ⟨rfl, hw2⟩; subst w2)
        go_ret
        refine ⟨?_, rfl⟩
        rw [meetsB_iff.2 ⟨y, List.mem_of_getElem? HY.out, isIn_iff.1 HI.out⟩]
        rfl
      | false =>
        rw [hi] at HH
        have HI := hidK hi
        clear hi
        go_wp2_with (go_at_call 9; refine HH.out.mono ?_; rintro e w2 ⟨rfl, hw2⟩; subst w2)
        go_roundw
        case rel => exact ⟨k + 1, by go_num, by omega, meets_take HY.out HO.out HI.out, by first | rfl | trivial⟩
        case measure => simp [intOf]; omega
    · obtain rfl : k = n := by omega
      have HI : Hid (meetsB A B = false) := by have := HO.out; rw [HN.out, List.take_length] at this; exact this
      clear HV
      go_wp2
      go_ret
      rw [HI.out]
      exact ⟨rfl, rfl⟩
/-- a flag -/
def boL (b : Bool) : List Value := [.bool b]
theorem boL_len (b : Bool) : (boL b).length = 1 := rfl
theorem elB : El boL 1 4 25 1 := ⟨Try.underlying25, ⟨.bool false, by kernel_rfl, rfl⟩, boL_len, by decide⟩
theorem riter_succ (O : List Ob) (k : Nat) : ∀ st, riter O (k + 1) st = rround O (riter O k st) := by
  induction k with
  | zero => intro st; rfl
  | succ k ih => intro st; exact ih (rround O st)
theorem rlen_step (O : List Ob) {M R : Nat} (hM : ∀ o ∈ O, o.nd.length ≤ M) {st : Rst} (hl : st.1.length = O.length) (h : st.2.length ≤ R + M * rcnt st) (i : Nat) : (rstep O st i).2.length ≤ R + M * rcnt (rstep O st i) := by
  rcases rstep_or O st hl i with e | ⟨e, _⟩
  · rw [e]; exact h
  · rw [e]
    unfold rstep
    cases ho : O[i]? with
    | none => simp only; rw [Nat.mul_add]; omega
    | some o =>
      simp only
      have := hM o (List.mem_of_getElem? ho)
      split
      · show (st.2 ++ o.nd).length ≤ _
        rw [List.length_append, Nat.mul_add, Nat.mul_one]; omega
      · rw [Nat.mul_add]; omega
theorem infoBo : (Try.prog.info? 4).map (fun i => (i.zero, i.size, i.bytes)) = some (some (.bool false), 1, 1) := by kernel_rfl
theorem mk_bools (n : Nat) (hn : n ≤ 67108864) (W : World) : (Instr.makeSlice 25 (.int .i64 n) (.int .i64 n)).run Try.prog W = .ok (.slice (some ⟨W.heap.size, 0, none⟩) n n) (W.alloc (.cells ((List.replicate n false).flatMap boL).toArray 4)) := by
  obtain ⟨i0, hi, hz0, hz1, hz2⟩ := info_parts infoBo
  rw [run_make W 25 4 i0 _ Try.underlying25 hi hz0 .i64 .i64 n n (by omega) (by omega) (by rw [hz2]; omega) (by omega), hz1, Int.toNat_natCast, ← made_flat boL 1 (by decide) boL_len false n]
  rfl
/-- a loop's invariant holds of every state on the way -/
structure Rok (O : List Ob) (R M : Nat) (st : Rst) : Prop where
  l : st.1.length = O.length
  b : st.2.length ≤ R + M * rcnt st
theorem rok_step (O : List Ob) {M R : Nat} (hM : ∀ o ∈ O, o.nd.length ≤ M) {st : Rst} (h : Rok O R M st) (i : Nat) : Rok O R M (rstep O st i) := by
  refine ⟨?_, rlen_step O hM h.l h.b i⟩
  rcases rstep_or O st h.l i with e | ⟨_, e⟩
  · rw [e]; exact h.l
  · exact e
theorem rok_fold (O : List Ob) {M R : Nat} (hM : ∀ o ∈ O, o.nd.length ≤ M) (l : List Nat) : ∀ st, Rok O R M st → Rok O R M (l.foldl (rstep O) st) := by
  induction l with
  | nil => intro st h; exact h
  | cons x r ih => intro st h; rw [List.foldl_cons]; exact ih _ (rok_step O hM h x)
theorem Rok.le {O : List Ob} {R M : Nat} {st : Rst} (h : Rok O R M st) : st.2.length ≤ R + M * O.length := by
  have h1 := h.b
  have h2 : rcnt st ≤ O.length := by unfold rcnt; rw [← h.l]; exact List.count_le_length
  have := Nat.mul_le_mul_left M h2
  omega
end Go.Proofs.Ytnnpdomfkedhpaa
