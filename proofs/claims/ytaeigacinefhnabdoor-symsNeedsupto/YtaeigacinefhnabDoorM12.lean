import Derived.Test.YtaeigacinefhnabDoorM8
import Derived.Test.YtaeigacinefhnabDoorM11
import Derived.Test.YtaeigacinefhnabDoorM5

-- Both Tables answer the same.
namespace Go.Proofs.YtaeigacinefhnabDoor
open Go.ChangeShapes Go.WideShapes Go.ChangeAt Go.RowKit
set_option linter.unusedVariables false
set_option maxRecDepth 100000
theorem table_no1 (b : ByteArray) (w : World) (hM : Magic w) (hm : b.size ≤ maxLen) (hE : identE b ≠ 0) : Calls Tryd.prog 10 #[.string b] w fun r w' => r = .returned (.tuple #[.slice none 0 0, .int .i64 (identE b)]) ∧ Below w.heap.size w w' := by
  have HI := Hid.mk' (ident_no b w hM hm hE)
  have hen : (identE b != 0) = true := bne_iff_ne.2 hE
  generalize identE b = e at HI hen
  go_enter Tryd.func10, Tryd.ntmps10
  go_wp2_with (first | (go_at_call 33; refine (HI.out).mono ?_; rintro r w1 ⟨rfl, hb1⟩))
  go_ret2
  exact ⟨rfl, hb1⟩
theorem table_no2 (b : ByteArray) (n : Nat) (s : Nat → Sec) (e : Int) (w : World) (hM : Magic w) (hm : b.size ≤ maxLen) (hE : identE b = 0) (he : e ≠ 0) (hP : PSecs b n s e) : Calls Tryd.prog 10 #[.string b] w fun r w' => r = .returned (.tuple #[.slice none 0 0, .int .i64 e]) ∧ Below w.heap.size w w' := by
  have HI := Hid.mk' (ident_ok b w hM hm hE)
  have HP := Hid.mk' hP
  have hen : (e != 0) = true := bne_iff_ne.2 he
  clear hP
  generalize cls b = c at HI
  generalize ord b = o at HI
  go_enter Tryd.func10, Tryd.ntmps10
  go_wp2_with (first
    | (go_at_call 33; refine (HI.out).mono ?_; rintro r w1 ⟨rfl, hb1⟩; have hM1 := hM.kept hb1)
    | (go_at_call 34; refine (HP.out _ hM1).mono ?_; rintro r w2 ⟨v, rfl, hS, hb2⟩))
  go_ret2
  exact ⟨rfl, hb1.trans (hb2.mono hb1.size)⟩
theorem dtable_no (b : ByteArray) (n : Nat) (s : Nat → Sec) (e : Int) (w : World) (he : e ≠ 0) (hP : DSecs b n s e) : Calls Tryd.prog 20 #[.string b] w fun r w' => r = .returned (.tuple #[.slice none 0 0, .int .i64 e]) ∧ Below w.heap.size w w' := by
  have HP := Hid.mk' hP
  have hen : (e != 0) = true := bne_iff_ne.2 he
  clear hP
  go_enter Tryd.func20, Tryd.ntmps20
  go_wp2_with (first
    | (go_at_call 45; refine (HP.out _).mono ?_; rintro r w2 ⟨v, rfl, hS, hb2⟩))
  go_ret2
  exact ⟨rfl, hb2⟩
/-- what Table answers, of the program and of the document -/
def PTab (b : ByteArray) (l : List Sym) (e : Int) : Prop := ∀ w : World, Magic w → Calls Tryd.prog 10 #[.string b] w fun r w' => ∃ v, r = .returned (.tuple #[v, .int .i64 e]) ∧ w'.ownsRow w.heap.size 61 7 v l.length (symsV l) ∧ Below w.heap.size w w'
def DTab (b : ByteArray) (l : List Sym) (e : Int) : Prop := ∀ w : World, Calls Tryd.prog 20 #[.string b] w fun r w' => ∃ v, r = .returned (.tuple #[v, .int .i64 e]) ∧ w'.ownsRow w.heap.size 61 7 v l.length (symsV l) ∧ Below w.heap.size w w'
theorem tables_both (b : ByteArray) (hb : b.size ≤ 1048576) : ∃ l e, l.length ≤ 1717960704 ∧ (e ≠ 0 → l = []) ∧ PTab b l e ∧ DTab b l e := by
  have hm : b.size ≤ maxLen := by unfold maxLen; omega
  obtain ⟨n, s, e, hn, hsb, _, hP, hD, hH, hI⟩ := secs_both b hb
  by_cases he : e = 0
  case neg =>
    refine ⟨[], e, Nat.zero_le _, fun _ => rfl, fun w hM => ?_, fun w => ?_⟩
    · by_cases hE : identE b = 0
      · exact (table_no2 b n s e w hM hm hE he hP).mono fun r w' ⟨h1, h2⟩ => ⟨_, h1, World.ownsRow_nil _ _ _ _, h2⟩
      · rw [hI hE]
        exact (table_no1 b w hM hm hE).mono fun r w' ⟨h1, h2⟩ => ⟨_, h1, World.ownsRow_nil _ _ _ _, h2⟩
    · exact (dtable_no b n s e w he hD).mono fun r w' ⟨h1, h2⟩ => ⟨_, h1, World.ownsRow_nil _ _ _ _, h2⟩
  subst he
  obtain ⟨hE, x2, x3, x4, x5, x6, x7, hH⟩ := hH rfl
  have ho := ord_ok b hE
  have hlen (c : Nat) : (tabL b c (ord b) n s 0).length ≤ 1717960704 := by
    cases ht : tabOf b c (ord b) n s n with
    | error f => rw [(tab_err ht).2]; exact Nat.zero_le _
    | ok l =>
      rw [(tab_ok ht).2]
      have := tab_length hb n l ht
      omega
  have hnil (c : Nat) : tabE b c (ord b) n s 0 ≠ 0 → tabL b c (ord b) n s 0 = [] := fun h => by
    cases ht : tabOf b c (ord b) n s n with
    | error f => exact (tab_err ht).2
    | ok l => exact absurd (tab_ok ht).1 h
  rcases cls_ok b hE with hc | hc
  · rw [hc] at hH
    exact ⟨_, _, hlen 32, hnil 32, fun w hM => table_32 b n s w hM hb hE hc hn hsb hP, fun w => dtable_32 b n s (ord b) x2 x3 x4 x5 x6 x7 w hb ho hn hsb hD hH⟩
  · rw [hc] at hH
    exact ⟨_, _, hlen 64, hnil 64, fun w hM => table_64 b n s w hM hb hE hc hn hsb hP, fun w => dtable_64 b n s (ord b) x2 x3 x4 x5 x6 x7 w hb ho hn hsb hD hH⟩
end Go.Proofs.YtaeigacinefhnabDoor

-- Which symbols are told, which are wanted: plain, and contracts.
namespace Go.Proofs.YtaeigacinefhnabDoor
open Go.ChangeShapes Go.WideShapes Go.ChangeAt Go.RowKit
set_option linter.unusedVariables false
set_option maxRecDepth 100000
def offB (x : Sym) : Bool := ((x.bind : Int) == 1 || (x.bind : Int) == 2) && (x.sect : Int) != 0 && !x.name.toList.isEmpty
def needB (x : Sym) : Bool := (x.bind : Int) == 1 && (x.sect : Int) == 0 && !x.name.toList.isEmpty
set_option maxHeartbeats 1000000 in
theorem isOffered_c (xn : ByteArray) (xb xt xo xs xv xz : Nat) (w : World) : Calls Tryd.prog 40 #[.agg #[.string xn, .int .i64 (xb : Int), .int .i64 (xt : Int), .int .i64 (xo : Int), .int .i64 (xs : Int), .int .u64 (xv : Int), .int .u64 (xz : Int)]] w fun r w' => r = .returned (.bool (offB ⟨xn, xb, xt, xo, xs, xv, xz⟩)) ∧ Below w.heap.size w w' := by
  have hbx : (w.alloc (.cells #[.string xn, .int .i64 (xb : Int), .int .i64 (xt : Int), .int .i64 (xo : Int), .int .i64 (xs : Int), .int .u64 (xv : Int), .int .u64 (xz : Int)] 61)).heap[w.heap.size]? = some (.cells #[.string xn, .int .i64 (xb : Int), .int .i64 (xt : Int), .int .i64 (xo : Int), .int .i64 (xs : Int), .int .u64 (xv : Int), .int .u64 (xz : Int)] 61 (0, 0)) := heap_alloc_new w _
  have hB : Below w.heap.size w (w.alloc (.cells #[.string xn, .int .i64 (xb : Int), .int .i64 (xt : Int), .int .i64 (xo : Int), .int .i64 (xs : Int), .int .u64 (xv : Int), .int .u64 (xz : Int)] 61)) := Below.alloc (Below.refl _ _) (Nat.le_refl _) _
  have hw : ∀ z : Bool, z = offB ⟨xn, xb, xt, xo, xs, xv, xz⟩ → z = offB ⟨xn, xb, xt, xo, xs, xv, xz⟩ := fun _ h => h
  clear hbx
  go_enter Tryd.func40, Tryd.ntmps40
  go_wp2
  all_goals
    go_ret
    refine ⟨congrArg (fun z => Ending.returned (Value.bool z)) ?_, Below.alloc (Below.refl _ _) (Nat.le_refl _) _⟩
    clear hw hB
    unfold offB
    simp_all
set_option maxHeartbeats 1000000 in
theorem isNeeded_c (xn : ByteArray) (xb xt xo xs xv xz : Nat) (w : World) : Calls Tryd.prog 42 #[.agg #[.string xn, .int .i64 (xb : Int), .int .i64 (xt : Int), .int .i64 (xo : Int), .int .i64 (xs : Int), .int .u64 (xv : Int), .int .u64 (xz : Int)]] w fun r w' => r = .returned (.bool (needB ⟨xn, xb, xt, xo, xs, xv, xz⟩)) ∧ Below w.heap.size w w' := by
  have hbx : (w.alloc (.cells #[.string xn, .int .i64 (xb : Int), .int .i64 (xt : Int), .int .i64 (xo : Int), .int .i64 (xs : Int), .int .u64 (xv : Int), .int .u64 (xz : Int)] 61)).heap[w.heap.size]? = some (.cells #[.string xn, .int .i64 (xb : Int), .int .i64 (xt : Int), .int .i64 (xo : Int), .int .i64 (xs : Int), .int .u64 (xv : Int), .int .u64 (xz : Int)] 61 (0, 0)) := heap_alloc_new w _
  have hB : Below w.heap.size w (w.alloc (.cells #[.string xn, .int .i64 (xb : Int), .int .i64 (xt : Int), .int .i64 (xo : Int), .int .i64 (xs : Int), .int .u64 (xv : Int), .int .u64 (xz : Int)] 61)) := Below.alloc (Below.refl _ _) (Nat.le_refl _) _
  have hw : ∀ z : Bool, z = needB ⟨xn, xb, xt, xo, xs, xv, xz⟩ → z = needB ⟨xn, xb, xt, xo, xs, xv, xz⟩ := fun _ h => h
  clear hbx
  go_enter Tryd.func42, Tryd.ntmps42
  go_wp2
  all_goals
    go_ret
    refine ⟨congrArg (fun z => Ending.returned (Value.bool z)) ?_, Below.alloc (Below.refl _ _) (Nat.le_refl _) _⟩
    clear hw hB
    unfold needB
    simp_all
set_option maxHeartbeats 1000000 in
theorem told_c (xn : ByteArray) (xb xt xo xs xv xz : Nat) (w : World) : Calls Tryd.prog 43 #[.agg #[.string xn, .int .i64 (xb : Int), .int .i64 (xt : Int), .int .i64 (xo : Int), .int .i64 (xs : Int), .int .u64 (xv : Int), .int .u64 (xz : Int)]] w fun r w' => r = .returned (.bool (offB ⟨xn, xb, xt, xo, xs, xv, xz⟩)) ∧ Below w.heap.size w w' := by
  have hbx : (w.alloc (.cells #[.string xn, .int .i64 (xb : Int), .int .i64 (xt : Int), .int .i64 (xo : Int), .int .i64 (xs : Int), .int .u64 (xv : Int), .int .u64 (xz : Int)] 61)).heap[w.heap.size]? = some (.cells #[.string xn, .int .i64 (xb : Int), .int .i64 (xt : Int), .int .i64 (xo : Int), .int .i64 (xs : Int), .int .u64 (xv : Int), .int .u64 (xz : Int)] 61 (0, 0)) := heap_alloc_new w _
  have hB : Below w.heap.size w (w.alloc (.cells #[.string xn, .int .i64 (xb : Int), .int .i64 (xt : Int), .int .i64 (xo : Int), .int .i64 (xs : Int), .int .u64 (xv : Int), .int .u64 (xz : Int)] 61)) := Below.alloc (Below.refl _ _) (Nat.le_refl _) _
  have hw : ∀ z : Bool, z = offB ⟨xn, xb, xt, xo, xs, xv, xz⟩ → z = offB ⟨xn, xb, xt, xo, xs, xv, xz⟩ := fun _ h => h
  clear hbx
  go_enter Tryd.func43, Tryd.ntmps43
  go_wp2
  all_goals
    go_ret
    refine ⟨congrArg (fun z => Ending.returned (Value.bool z)) ?_, Below.alloc (Below.refl _ _) (Nat.le_refl _) _⟩
    clear hw hB
    unfold offB
    simp_all
set_option maxHeartbeats 1000000 in
theorem wanted_c (xn : ByteArray) (xb xt xo xs xv xz : Nat) (w : World) : Calls Tryd.prog 44 #[.agg #[.string xn, .int .i64 (xb : Int), .int .i64 (xt : Int), .int .i64 (xo : Int), .int .i64 (xs : Int), .int .u64 (xv : Int), .int .u64 (xz : Int)]] w fun r w' => r = .returned (.bool (needB ⟨xn, xb, xt, xo, xs, xv, xz⟩)) ∧ Below w.heap.size w w' := by
  have hbx : (w.alloc (.cells #[.string xn, .int .i64 (xb : Int), .int .i64 (xt : Int), .int .i64 (xo : Int), .int .i64 (xs : Int), .int .u64 (xv : Int), .int .u64 (xz : Int)] 61)).heap[w.heap.size]? = some (.cells #[.string xn, .int .i64 (xb : Int), .int .i64 (xt : Int), .int .i64 (xo : Int), .int .i64 (xs : Int), .int .u64 (xv : Int), .int .u64 (xz : Int)] 61 (0, 0)) := heap_alloc_new w _
  have hB : Below w.heap.size w (w.alloc (.cells #[.string xn, .int .i64 (xb : Int), .int .i64 (xt : Int), .int .i64 (xo : Int), .int .i64 (xs : Int), .int .u64 (xv : Int), .int .u64 (xz : Int)] 61)) := Below.alloc (Below.refl _ _) (Nat.le_refl _) _
  have hw : ∀ z : Bool, z = needB ⟨xn, xb, xt, xo, xs, xv, xz⟩ → z = needB ⟨xn, xb, xt, xo, xs, xv, xz⟩ := fun _ h => h
  clear hbx
  go_enter Tryd.func44, Tryd.ntmps44
  go_wp2
  all_goals
    go_ret
    refine ⟨congrArg (fun z => Ending.returned (Value.bool z)) ?_, Below.alloc (Below.refl _ _) (Nat.le_refl _) _⟩
    clear hw hB
    unfold needB
    simp_all
end Go.Proofs.YtaeigacinefhnabDoor

-- syms: the names that a function literal gathers: contracts.
namespace Go.Proofs.YtaeigacinefhnabDoor
open Go.ChangeShapes Go.WideShapes Go.ChangeAt Go.RowKit
set_option linter.unusedVariables false
set_option maxRecDepth 100000
/-- nothing below B has turned but block k -/
structure Kz (k B : Nat) (w w' : World) : Prop where
  os : w'.os = w.os
  tape : w'.tape = w.tape
  output : w'.output = w.output
  size : w.heap.size ≤ w'.heap.size
  block : ∀ j, j ≠ k → j < B → w'.heap[j]? = w.heap[j]?
theorem Kz.refl (k B : Nat) (w : World) : Kz k B w w := ⟨rfl, rfl, rfl, Nat.le_refl _, fun _ _ _ => rfl⟩
theorem Kz.of {k B : Nat} {w w' : World} (h : Below B w w') : Kz k B w w' := ⟨h.os, h.tape, h.output, h.size, fun j _ hj => h.block j hj⟩
theorem Kz.trans {k B : Nat} {a b c : World} (h : Kz k B a b) (g : Kz k B b c) : Kz k B a c :=
  ⟨g.os.trans h.os, g.tape.trans h.tape, g.output.trans h.output, Nat.le_trans h.size g.size, fun j h1 h2 => (g.block j h1 h2).trans (h.block j h1 h2)⟩
theorem Kz.set {k B : Nat} {a w : World} (h : Kz k B a w) (i : Nat) (v : Value) : Kz k B a (w.setCell ⟨k, i, none⟩ v) := by
  have hb : Below 0 w (w.setCell ⟨k, i, none⟩ v) := Below.setCell (Below.refl _ _) (Nat.zero_le _) _
  exact ⟨hb.os.trans h.os, hb.tape.trans h.tape, hb.output.trans h.output, Nat.le_trans h.size hb.size, fun j h1 h2 => (Below.heap_setCell w _ _ j h1).trans (h.block j h1 h2)⟩
theorem Kz.below {k B C : Nat} {w w' : World} (h : Kz k B w w') (hk : C ≤ k) (hB : C ≤ B) : Below C w w' := ⟨h.os, h.tape, h.output, h.size, fun j hj => h.block j (by omega) (by omega)⟩
/-- a list of names in memory, of its own -/
def NmAt (B c : Nat) (k : List ByteArray) (w : World) : Prop := ∃ v, w.heap[c]? = some (.cells #[v] 33 (0, 0)) ∧ w.ownsRow B 9 1 v k.length (k.map .string)
theorem infoStr : (Tryd.prog.info? 9).map (fun i => (i.zero, i.size, i.bytes)) = some (some (.string ⟨#[]⟩), 1, 16) := by kernel_rfl
set_option maxHeartbeats 1000000 in
theorem clo_off (xn : ByteArray) (xb xt xo xs xv xz : Nat) (c B : Nat) (k : List ByteArray) (w : World) (hN : NmAt B c k w) (hcB : c < B) (hB : B ≤ w.heap.size) (hk : k.length ≤ 1717960704) :
    Calls Tryd.prog 39 #[.agg #[.string xn, .int .i64 (xb : Int), .int .i64 (xt : Int), .int .i64 (xo : Int), .int .i64 (xs : Int), .int .u64 (xv : Int), .int .u64 (xz : Int)], .pointer (some ⟨c, 0, none⟩)] w fun r w' => r = .returned (.tuple #[]) ∧ NmAt B c (if offB ⟨xn, xb, xt, xo, xs, xv, xz⟩ then k ++ [xn] else k) w' ∧ Kz c B w w' := by
  obtain ⟨v, hc, hown⟩ := hN
  have hbx : (w.alloc (.cells #[.string xn, .int .i64 (xb : Int), .int .i64 (xt : Int), .int .i64 (xo : Int), .int .i64 (xs : Int), .int .u64 (xv : Int), .int .u64 (xz : Int)] 61)).heap[w.heap.size]? = some (.cells #[.string xn, .int .i64 (xb : Int), .int .i64 (xt : Int), .int .i64 (xo : Int), .int .i64 (xs : Int), .int .u64 (xv : Int), .int .u64 (xz : Int)] 61 (0, 0)) := heap_alloc_new w _
  have hzb : (w.alloc (.cells #[.string xn, .int .i64 (xb : Int), .int .i64 (xt : Int), .int .i64 (xo : Int), .int .i64 (xs : Int), .int .u64 (xv : Int), .int .u64 (xz : Int)] 61)).heap.size = w.heap.size + 1 := size_alloc _ _
  have hB0 : Below w.heap.size w (w.alloc (.cells #[.string xn, .int .i64 (xb : Int), .int .i64 (xt : Int), .int .i64 (xo : Int), .int .i64 (xs : Int), .int .u64 (xv : Int), .int .u64 (xz : Int)] 61)) := Below.alloc (Below.refl _ _) (Nat.le_refl _) _
  have HP : Hid (∀ w : World, Calls Tryd.prog 40 #[.agg #[.string xn, .int .i64 (xb : Int), .int .i64 (xt : Int), .int .i64 (xo : Int), .int .i64 (xs : Int), .int .u64 (xv : Int), .int .u64 (xz : Int)]] w fun r w' => r = .returned (.bool (offB ⟨xn, xb, xt, xo, xs, xv, xz⟩)) ∧ Below w.heap.size w w') := fun w => isOffered_c xn xb xt xo xs xv xz w
  obtain ⟨i0, hi, hz0, hz1, hz2⟩ := info_parts' infoStr
  have HK := Hid.mk' (And.intro hB0 (And.intro hzb (And.intro hc hown)))
  clear hB0 hzb hc hown
  cases hp : offB ⟨xn, xb, xt, xo, xs, xv, xz⟩ with
  | false =>
    rw [hp] at HP
    go_enter Tryd.func39, Tryd.ntmps39
    go_wp2_with (first
      | (refine wpList_load_row rfl _ _ rfl w.heap.size rfl _ _ _ _ hbx Tryd.underlying61 rfl (by kernel_rfl) ?_)
      | (go_at_call 40; refine (HP.out _).mono ?_; rintro r w1 ⟨rfl, hb1⟩))
    go_end0
    obtain ⟨hB0, hzb, hc, hown⟩ := HK.out
    have hb : Below w.heap.size w w1 := hB0.trans (hb1.mono (by rw [hzb]; exact Nat.le_succ _))
    exact ⟨rfl, ⟨v, (hb.block c (by omega)).trans hc, own_below hown hb⟩, Kz.of (hb.mono hB)⟩
  | true =>
    rw [hp] at HP
    go_enter Tryd.func39, Tryd.ntmps39
    go_wp2_with (first
      | (refine wpList_load_row rfl _ _ rfl w.heap.size rfl _ _ _ _ hbx Tryd.underlying61 rfl (by kernel_rfl) ?_))
    go_at_call 40
    refine (HP.out _).mono ?_
    rintro r w1 ⟨rfl, hb1⟩
    obtain ⟨hB0, hzb, hc, hown⟩ := HK.out
    have hb : Below w.heap.size w w1 := hB0.trans (hb1.mono (by rw [hzb]; exact Nat.le_succ _))
    have hbx1 : w1.heap[w.heap.size]? = some (.cells #[.string xn, .int .i64 (xb : Int), .int .i64 (xt : Int), .int .i64 (xo : Int), .int .i64 (xs : Int), .int .u64 (xv : Int), .int .u64 (xz : Int)] 61 (0, 0)) := (hb1.block _ (by rw [hzb]; exact Nat.lt_succ_self _)).trans hbx
    have hc1 : w1.heap[c]? = some (.cells #[v] 33 (0, 0)) := (hb.block c (by omega)).trans hc
    have q0 : w1.cell? ⟨c, 0, none⟩ = some v := cell_of_row _ _ 0 _ _ _ hc1
    have q1 : w1.cell? ⟨w.heap.size, 0, none⟩ = some (.string xn) := cell_of_row _ _ 0 _ _ _ hbx1
    have hOW := (own_below hown hb).alloc (.cells #[.string xn] 9)
    have hB1 : B ≤ w1.heap.size := Nat.le_trans hB hb.size
    have hc3 : k.length + 1 ≤ maxLen := by unfold maxLen; omega
    have hc4 : (k.length + 1) * 16 ≤ 140737488355328 := by omega
    have HK1 := Hid.mk' (And.intro hb (And.intro hc1 (And.intro hown hB1)))
    clear HK hB0 hzb hc hown hb hc1 hbx hbx1 hb1 hB1 HP
    go_wp2_with (first
      | (at_builtin; refine wpList_append_own _ rfl _ _ 33 rfl B 9 i0 (.string ⟨#[]⟩) 1 16 Tryd.underlying33 hi hz0 hz1 hz2 rfl (by decide) _ _ _ rfl hOW ⟨w1.heap.size, 0, none⟩ 1 1 [.string xn] rfl rfl ?c1 (by intro u hu; simp at hu; subst hu; rfl) ?c3 ?c4 ?c5 ?_))
    case c1 =>
      intro q u hu
      rw [Addr.add_mid, Nat.zero_add, cell_of_row _ _ _ _ _ _ (heap_alloc_new w1 _)]
      simpa using hu
    case c3 => exact hc3
    case c4 => exact hc4
    case c5 => rw [size_alloc]; exact Nat.le_succ_of_le HK1.out.2.2.2
    intro v' w5 hown5 hgrow _
    obtain ⟨ao5, n5, c5, rfl⟩ : ∃ a n c, v' = Value.slice a n c := by rcases hown5.2 with ⟨h, _⟩ | ⟨g, cap, cur, h, _⟩ <;> exact ⟨_, _, _, h⟩
    obtain ⟨hb, hc1, hown, hB1⟩ := HK1.out
    have hrow : ∀ q, v.ownBlock = some q → B ≤ q := fun q hq => (hown.lt q hq).1
    have hbR : Below B w1 w5 := Below.grown (Below.alloc (Below.refl _ _) hB1 _) hgrow (by rw [size_alloc]; omega) hrow
    have hk5 : w5.heap[c]? = some (.cells #[v] 33 (0, 0)) := (hbR.block c hcB).trans hc1
    have q5 : w5.cell? ⟨c, 0, none⟩ = some v := cell_of_row _ _ 0 _ _ _ hk5
    have z5 : w5.frozen? ⟨c, 0, none⟩ = false := frozen_of_row _ _ 0 _ _ hk5
    have HK5 := Hid.mk' (And.intro hb (And.intro hbR (And.intro hk5 hown5)))
    clear hb hc1 hown hB1 hrow hbR hk5 hown5 hgrow HK1 hOW
    go_wp2
    go_end0
    obtain ⟨hb, hbR, hk5, hown5⟩ := HK5.out
    have hkz : Kz c B w5 (w5.setCell ⟨c, 0, none⟩ (.slice ao5 n5 c5)) := (Kz.refl _ _ _).set _ _
    refine ⟨rfl, ⟨.slice ao5 n5 c5, (set_row _ hk5).trans rfl, ?_⟩, ((Kz.of (hb.mono hB)).trans (Kz.of hbR)).trans hkz⟩
    rw [List.length_append, List.map_append]
    have hh : (w5.setCell ⟨c, 0, none⟩ (.slice ao5 n5 c5)).ownsRow B 9 1 (.slice ao5 n5 c5) (k.length + 1) (k.map .string ++ [.string xn]) := by
      refine ⟨hown5.1, ?_⟩
      rcases hown5.2 with h1 | ⟨g, cap, cur, h1, h2, h3, h4⟩
      · exact Or.inl h1
      · exact Or.inr ⟨g, cap, cur, h1, h2, (Below.heap_setCell w5 _ _ g (by show g ≠ c; omega)).trans h3, h4⟩
    exact hh
set_option maxHeartbeats 1000000 in
theorem clo_need (xn : ByteArray) (xb xt xo xs xv xz : Nat) (c B : Nat) (k : List ByteArray) (w : World) (hN : NmAt B c k w) (hcB : c < B) (hB : B ≤ w.heap.size) (hk : k.length ≤ 1717960704) :
    Calls Tryd.prog 41 #[.agg #[.string xn, .int .i64 (xb : Int), .int .i64 (xt : Int), .int .i64 (xo : Int), .int .i64 (xs : Int), .int .u64 (xv : Int), .int .u64 (xz : Int)], .pointer (some ⟨c, 0, none⟩)] w fun r w' => r = .returned (.tuple #[]) ∧ NmAt B c (if needB ⟨xn, xb, xt, xo, xs, xv, xz⟩ then k ++ [xn] else k) w' ∧ Kz c B w w' := by
  obtain ⟨v, hc, hown⟩ := hN
  have hbx : (w.alloc (.cells #[.string xn, .int .i64 (xb : Int), .int .i64 (xt : Int), .int .i64 (xo : Int), .int .i64 (xs : Int), .int .u64 (xv : Int), .int .u64 (xz : Int)] 61)).heap[w.heap.size]? = some (.cells #[.string xn, .int .i64 (xb : Int), .int .i64 (xt : Int), .int .i64 (xo : Int), .int .i64 (xs : Int), .int .u64 (xv : Int), .int .u64 (xz : Int)] 61 (0, 0)) := heap_alloc_new w _
  have hzb : (w.alloc (.cells #[.string xn, .int .i64 (xb : Int), .int .i64 (xt : Int), .int .i64 (xo : Int), .int .i64 (xs : Int), .int .u64 (xv : Int), .int .u64 (xz : Int)] 61)).heap.size = w.heap.size + 1 := size_alloc _ _
  have hB0 : Below w.heap.size w (w.alloc (.cells #[.string xn, .int .i64 (xb : Int), .int .i64 (xt : Int), .int .i64 (xo : Int), .int .i64 (xs : Int), .int .u64 (xv : Int), .int .u64 (xz : Int)] 61)) := Below.alloc (Below.refl _ _) (Nat.le_refl _) _
  have HP : Hid (∀ w : World, Calls Tryd.prog 42 #[.agg #[.string xn, .int .i64 (xb : Int), .int .i64 (xt : Int), .int .i64 (xo : Int), .int .i64 (xs : Int), .int .u64 (xv : Int), .int .u64 (xz : Int)]] w fun r w' => r = .returned (.bool (needB ⟨xn, xb, xt, xo, xs, xv, xz⟩)) ∧ Below w.heap.size w w') := fun w => isNeeded_c xn xb xt xo xs xv xz w
  obtain ⟨i0, hi, hz0, hz1, hz2⟩ := info_parts' infoStr
  have HK := Hid.mk' (And.intro hB0 (And.intro hzb (And.intro hc hown)))
  clear hB0 hzb hc hown
  cases hp : needB ⟨xn, xb, xt, xo, xs, xv, xz⟩ with
  | false =>
    rw [hp] at HP
    go_enter Tryd.func41, Tryd.ntmps41
    go_wp2_with (first
      | (refine wpList_load_row rfl _ _ rfl w.heap.size rfl _ _ _ _ hbx Tryd.underlying61 rfl (by kernel_rfl) ?_)
      | (go_at_call 42; refine (HP.out _).mono ?_; rintro r w1 ⟨rfl, hb1⟩))
    go_end0
    obtain ⟨hB0, hzb, hc, hown⟩ := HK.out
    have hb : Below w.heap.size w w1 := hB0.trans (hb1.mono (by rw [hzb]; exact Nat.le_succ _))
    exact ⟨rfl, ⟨v, (hb.block c (by omega)).trans hc, own_below hown hb⟩, Kz.of (hb.mono hB)⟩
  | true =>
    rw [hp] at HP
    go_enter Tryd.func41, Tryd.ntmps41
    go_wp2_with (first
      | (refine wpList_load_row rfl _ _ rfl w.heap.size rfl _ _ _ _ hbx Tryd.underlying61 rfl (by kernel_rfl) ?_))
    go_at_call 42
    refine (HP.out _).mono ?_
    rintro r w1 ⟨rfl, hb1⟩
    obtain ⟨hB0, hzb, hc, hown⟩ := HK.out
    have hb : Below w.heap.size w w1 := hB0.trans (hb1.mono (by rw [hzb]; exact Nat.le_succ _))
    have hbx1 : w1.heap[w.heap.size]? = some (.cells #[.string xn, .int .i64 (xb : Int), .int .i64 (xt : Int), .int .i64 (xo : Int), .int .i64 (xs : Int), .int .u64 (xv : Int), .int .u64 (xz : Int)] 61 (0, 0)) := (hb1.block _ (by rw [hzb]; exact Nat.lt_succ_self _)).trans hbx
    have hc1 : w1.heap[c]? = some (.cells #[v] 33 (0, 0)) := (hb.block c (by omega)).trans hc
    have q0 : w1.cell? ⟨c, 0, none⟩ = some v := cell_of_row _ _ 0 _ _ _ hc1
    have q1 : w1.cell? ⟨w.heap.size, 0, none⟩ = some (.string xn) := cell_of_row _ _ 0 _ _ _ hbx1
    have hOW := (own_below hown hb).alloc (.cells #[.string xn] 9)
    have hB1 : B ≤ w1.heap.size := Nat.le_trans hB hb.size
    have hc3 : k.length + 1 ≤ maxLen := by unfold maxLen; omega
    have hc4 : (k.length + 1) * 16 ≤ 140737488355328 := by omega
    have HK1 := Hid.mk' (And.intro hb (And.intro hc1 (And.intro hown hB1)))
    clear HK hB0 hzb hc hown hb hc1 hbx hbx1 hb1 hB1 HP
    go_wp2_with (first
      | (at_builtin; refine wpList_append_own _ rfl _ _ 33 rfl B 9 i0 (.string ⟨#[]⟩) 1 16 Tryd.underlying33 hi hz0 hz1 hz2 rfl (by decide) _ _ _ rfl hOW ⟨w1.heap.size, 0, none⟩ 1 1 [.string xn] rfl rfl ?c1 (by intro u hu; simp at hu; subst hu; rfl) ?c3 ?c4 ?c5 ?_))
    case c1 =>
      intro q u hu
      rw [Addr.add_mid, Nat.zero_add, cell_of_row _ _ _ _ _ _ (heap_alloc_new w1 _)]
      simpa using hu
    case c3 => exact hc3
    case c4 => exact hc4
    case c5 => rw [size_alloc]; exact Nat.le_succ_of_le HK1.out.2.2.2
    intro v' w5 hown5 hgrow _
    obtain ⟨ao5, n5, c5, rfl⟩ : ∃ a n c, v' = Value.slice a n c := by rcases hown5.2 with ⟨h, _⟩ | ⟨g, cap, cur, h, _⟩ <;> exact ⟨_, _, _, h⟩
    obtain ⟨hb, hc1, hown, hB1⟩ := HK1.out
    have hrow : ∀ q, v.ownBlock = some q → B ≤ q := fun q hq => (hown.lt q hq).1
    have hbR : Below B w1 w5 := Below.grown (Below.alloc (Below.refl _ _) hB1 _) hgrow (by rw [size_alloc]; omega) hrow
    have hk5 : w5.heap[c]? = some (.cells #[v] 33 (0, 0)) := (hbR.block c hcB).trans hc1
    have q5 : w5.cell? ⟨c, 0, none⟩ = some v := cell_of_row _ _ 0 _ _ _ hk5
    have z5 : w5.frozen? ⟨c, 0, none⟩ = false := frozen_of_row _ _ 0 _ _ hk5
    have HK5 := Hid.mk' (And.intro hb (And.intro hbR (And.intro hk5 hown5)))
    clear hb hc1 hown hB1 hrow hbR hk5 hown5 hgrow HK1 hOW
    go_wp2
    go_end0
    obtain ⟨hb, hbR, hk5, hown5⟩ := HK5.out
    have hkz : Kz c B w5 (w5.setCell ⟨c, 0, none⟩ (.slice ao5 n5 c5)) := (Kz.refl _ _ _).set _ _
    refine ⟨rfl, ⟨.slice ao5 n5 c5, (set_row _ hk5).trans rfl, ?_⟩, ((Kz.of (hb.mono hB)).trans (Kz.of hbR)).trans hkz⟩
    rw [List.length_append, List.map_append]
    have hh : (w5.setCell ⟨c, 0, none⟩ (.slice ao5 n5 c5)).ownsRow B 9 1 (.slice ao5 n5 c5) (k.length + 1) (k.map .string ++ [.string xn]) := by
      refine ⟨hown5.1, ?_⟩
      rcases hown5.2 with h1 | ⟨g, cap, cur, h1, h2, h3, h4⟩
      · exact Or.inl h1
      · exact Or.inr ⟨g, cap, cur, h1, h2, (Below.heap_setCell w5 _ _ g (by show g ≠ c; omega)).trans h3, h4⟩
    exact hh
end Go.Proofs.YtaeigacinefhnabDoor

-- syms.each, Globals and Needs: contracts.
namespace Go.Proofs.YtaeigacinefhnabDoor
open Go.ChangeShapes Go.WideShapes Go.ChangeAt Go.RowKit
set_option linter.unusedVariables false
set_option maxRecDepth 100000
theorem take_step (l : List Sym) (f : Sym → Bool) (i : Nat) (x : Sym) (h : l[i]? = some x) : ((l.take (i + 1)).filter f).map Sym.name = if f x then ((l.take i).filter f).map Sym.name ++ [x.name] else ((l.take i).filter f).map Sym.name := by
  obtain ⟨hi, hx⟩ := List.getElem?_eq_some_iff.1 h
  rw [List.take_succ_eq_append_getElem hi, List.filter_append, List.map_append, hx]
  by_cases hf : f x = true
  · rw [if_pos hf, List.filter_cons_of_pos hf]; rfl
  · rw [if_neg hf, List.filter_cons_of_neg hf]; simp
theorem own_slice {w : World} {B : Nat} {e : TypeId} {z : Nat} {v : Value} {n : Nat} {xs : List Value} (h : w.ownsRow B e z v n xs) : ∃ a m c, v = Value.slice a m c := by
  rcases h.2 with ⟨h, _⟩ | ⟨g, cap, cur, h, _⟩
  · exact ⟨_, _, _, h⟩
  · exact ⟨_, _, _, h⟩
theorem NmAt.kept {B c : Nat} {k : List ByteArray} {w w' : World} (h : NmAt B c k w) (hb : Below w.heap.size w w') : NmAt B c k w' := by
  obtain ⟨v, h1, h2⟩ := h
  exact ⟨v, (hb.block c (Array.getElem?_eq_some_iff.1 h1).1).trans h1, own_below h2 hb⟩
set_option maxHeartbeats 1000000 in
theorem each_off (b : ByteArray) (l : List Sym) (e : Int) (hT : PTab b l e) (hne : e ≠ 0 → l = []) (c : Nat) (w : World) (hM : Magic w) (hc : w.heap[c]? = some (.cells #[.slice none 0 0] 33 (0, 0))) (hl : l.length ≤ 1717960704) :
    Calls Tryd.prog 38 #[.string b, (.func (.func 39) #[] #[.pointer (some ⟨c, 0, none⟩)])] w fun r w' => r = .returned (.tuple #[]) ∧ NmAt w.heap.size c ((l.filter offB).map Sym.name) w' ∧ Kz c w.heap.size w w' := by
  have HT := Hid.mk' (hT w hM)
  have hcl : c < w.heap.size := (Array.getElem?_eq_some_iff.1 hc).1
  clear hT
  by_cases he : e = 0
  case neg =>
    have hen : (e != 0) = true := bne_iff_ne.2 he
    obtain rfl := hne he
    clear hne
    go_enter Tryd.func38, Tryd.ntmps38
    go_wp2_with (first | (go_at_call 10; refine (HT.out).mono ?_; rintro r w1 ⟨v1, rfl, hs1, hb1⟩))
    exact bodyPost_ret (results_none rfl _ _ _) rfl ⟨rfl, ⟨_, (hb1.block c hcl).trans hc, World.ownsRow_nil _ _ _ _⟩, Kz.of hb1⟩
  subst he
  clear hne
  go_enter Tryd.func38, Tryd.ntmps38
  go_wp2_with (first | (go_at_call 10; refine (HT.out).mono ?_; rintro r w1 ⟨v1, rfl, hs1, hb1⟩; obtain ⟨ao, cp, rfl, hA⟩ := own_syms hs1))
  have HA := Hid.mk' hA
  have hsz := hb1.size
  have hc1 : w1.heap[c]? = some (.cells #[.slice none 0 0] 33 (0, 0)) := (hb1.block c hcl).trans hc
  have HB1 := Hid.mk' (And.intro hb1 (And.intro hcl hsz))
  obtain ⟨n, hln⟩ : ∃ n, l.length = n := ⟨_, rfl⟩
  have HLN := Hid.mk' hln
  rw [hln] at hl ⊢
  have h0 : NmAt w1.heap.size c (((l.take 0).filter offB).map Sym.name) w1 := ⟨_, hc1, World.ownsRow_nil _ _ _ _⟩
  clear hA hs1 hb1 hc hc1 HT hM hln
  go_loopw [17] (fun a wx => ∃ i : Nat, i ≤ n ∧ a = .int .i64 i ∧ NmAt w1.heap.size c (((l.take i).filter offB).map Sym.name) wx ∧ Kz c w1.heap.size w1 wx) (fun a _ => n - (intOf a).toNat)
  case atStart => exact ⟨0, Nat.zero_le _, rfl, h0, Kz.refl _ _ _⟩
  case round =>
    clear h0
    obtain ⟨i, hi, rfl, hN, hK⟩ := hrel
    by_cases hin : i < n
    · have hlt : i < l.length := by rw [HLN.out]; exact hin
      have hx : l[i]? = some l[i] := List.getElem?_eq_getElem hlt
      obtain ⟨g, rfl, hgw, hg⟩ := HA.out (by rw [HLN.out]; omega)
      have hkl : (((l.take i).filter offB).map Sym.name).length ≤ 1717960704 := by
        rw [List.length_map]
        refine Nat.le_trans (List.length_filter_le _ _) ?_
        rw [List.length_take, HLN.out]
        omega
      have hts := take_step l offB i _ hx
      generalize l[i] = x at hx hts
      obtain ⟨xn, xb, xt, xo, xs, xv, xz⟩ := x
      have hgB : g < w1.heap.size := lt_of_cell ((hg i 0 _ hx (by omega)).trans rfl)
      have cw (m : Nat) : wr.cell? ⟨g, m, none⟩ = w1.cell? ⟨g, m, none⟩ := World.cell?_of_block (w := w1) (hK.block g (by have := HB1.out.2.1; show g ≠ c; omega) hgB)
      have a0 : wr.cell? ⟨g, i * 7, none⟩ = some (.string xn) := by rw [cw]; exact hg i 0 _ hx (by omega)
      have a1 : wr.cell? ⟨g, i * 7 + 1, none⟩ = some (.int .i64 (xb : Int)) := by rw [cw]; exact hg i 1 _ hx (by omega)
      have a2 : wr.cell? ⟨g, i * 7 + 2, none⟩ = some (.int .i64 (xt : Int)) := by rw [cw]; exact hg i 2 _ hx (by omega)
      have a3 : wr.cell? ⟨g, i * 7 + 3, none⟩ = some (.int .i64 (xo : Int)) := by rw [cw]; exact hg i 3 _ hx (by omega)
      have a4 : wr.cell? ⟨g, i * 7 + 4, none⟩ = some (.int .i64 (xs : Int)) := by rw [cw]; exact hg i 4 _ hx (by omega)
      have a5 : wr.cell? ⟨g, i * 7 + 5, none⟩ = some (.int .u64 (xv : Int)) := by rw [cw]; exact hg i 5 _ hx (by omega)
      have a6 : wr.cell? ⟨g, i * 7 + 6, none⟩ = some (.int .u64 (xz : Int)) := by rw [cw]; exact hg i 6 _ hx (by omega)
      have hiI : (i : Int) < (n : Int) := Int.ofNat_lt.2 hin
      have hi0 : (0 : Int) ≤ (i : Int) := Int.natCast_nonneg _
      have hbx : (wr.alloc (.cells #[.string xn, .int .i64 (xb : Int), .int .i64 (xt : Int), .int .i64 (xo : Int), .int .i64 (xs : Int), .int .u64 (xv : Int), .int .u64 (xz : Int)] 61)).heap[wr.heap.size]? = some (.cells #[.string xn, .int .i64 (xb : Int), .int .i64 (xt : Int), .int .i64 (xo : Int), .int .i64 (xs : Int), .int .u64 (xv : Int), .int .u64 (xz : Int)] 61 (0, 0)) := heap_alloc_new wr _
      have hbA : Below wr.heap.size wr (wr.alloc (.cells #[.string xn, .int .i64 (xb : Int), .int .i64 (xt : Int), .int .i64 (xo : Int), .int .i64 (xs : Int), .int .u64 (xv : Int), .int .u64 (xz : Int)] 61)) := Below.alloc (Below.refl _ _) (Nat.le_refl _) _
      have hcc : c < w1.heap.size := Nat.lt_of_lt_of_le HB1.out.2.1 HB1.out.2.2
      have HC := Hid.mk' (clo_off xn xb xt xo xs xv xz c w1.heap.size _ (wr.alloc (.cells #[.string xn, .int .i64 (xb : Int), .int .i64 (xt : Int), .int .i64 (xo : Int), .int .i64 (xs : Int), .int .u64 (xv : Int), .int .u64 (xz : Int)] 61)) (hN.kept hbA) hcc (Nat.le_trans hK.size hbA.size) hkl)
      have HTS := Hid.mk' hts
      have HKZ := Hid.mk' (And.intro hK (Kz.of (k := c) (hbA.mono hK.size)))
      clear hg hx cw hgB hgw hkl hts hN hK hbA hlt
      go_wp2_with (first
        | (refine wpList_load_row rfl _ _ rfl wr.heap.size rfl _ _ _ _ hbx Tryd.underlying61 rfl (by kernel_rfl) ?_)
        | (go_at_call 39; refine (HC.out).mono ?_; rintro r w4 ⟨rfl, hN4, hK4⟩))
      have HF : Hid (NmAt w1.heap.size c (((l.take (i + 1)).filter offB).map Sym.name) w4 ∧ Kz c w1.heap.size w1 w4) := ⟨by rw [HTS.out]; exact hN4, (HKZ.out.1.trans HKZ.out.2).trans hK4⟩
      clear hN4 hK4
      go_roundw
      case rel => exact ⟨i + 1, hin, by go_num, HF.out⟩
      case measure => clear HF HTS HKZ HC HA HB1; simp [intOf]; omega
    · obtain rfl : i = n := Nat.le_antisymm hi (Nat.not_lt.1 hin)
      have hiI : ¬ (i : Int) < (i : Int) := Int.lt_irrefl _
      have HF := Hid.mk' (And.intro hN hK)
      clear hN hK
      go_wp2
      go_end0
      obtain ⟨hN, hK⟩ := HF.out
      obtain ⟨hb1, hcl, hsz⟩ := HB1.out
      rw [← HLN.out, List.take_length] at hN
      obtain ⟨v, h1, h2⟩ := hN
      refine ⟨rfl, ⟨v, h1, own_base h2 hsz⟩, (Kz.of hb1).trans ⟨hK.os, hK.tape, hK.output, hK.size, fun j h1 h2 => hK.block j h1 (by omega)⟩⟩
set_option maxHeartbeats 1000000 in
theorem Globals_c (b : ByteArray) (l : List Sym) (e : Int) (hT : PTab b l e) (hne : e ≠ 0 → l = []) (hl : l.length ≤ 1717960704) (w : World) (hM : Magic w) :
    Calls Tryd.prog 11 #[.string b] w fun r w' => ∃ v, r = .returned v ∧ w'.ownsRow w.heap.size 9 1 v ((l.filter offB).map Sym.name).length (((l.filter offB).map Sym.name).map .string) ∧ Below w.heap.size w w' := by
  have hmf : ∀ (fn : Fn) (first cap : Array Value) (w : World), (Instr.makeFunc fn first cap).run Tryd.prog w = .ok (.func fn first cap) w := fun _ _ _ _ => rfl
  have hM1 : Magic (w.alloc (.cells #[.slice none 0 0] 33)) := hM.kept (Below.alloc (Below.refl _ _) (Nat.le_refl _) _)
  have HE := Hid.mk' (each_off b l e hT hne w.heap.size _ hM1 (heap_alloc_new w _) hl)
  clear hT hne
  go_enter Tryd.func11, Tryd.ntmps11
  go_wp2_with (first
    | (go_at_call 38; refine (HE.out).mono ?_; rintro r w1 ⟨rfl, ⟨v, hv, hown⟩, hK⟩; obtain ⟨ao5, n5, c5, rfl⟩ := own_slice hown; have q0 : w1.cell? ⟨w.heap.size, 0, none⟩ = some (.slice ao5 n5 c5) := cell_of_row _ _ 0 _ _ _ hv; have HF := Hid.mk' (And.intro hown hK); clear hown hK hv))
  go_ret
  obtain ⟨hown, hK⟩ := HF.out
  rw [size_alloc] at hown hK
  exact ⟨_, rfl, own_base hown (Nat.le_succ _), (Below.alloc (Below.refl _ _) (Nat.le_refl _) _).trans (hK.below (Nat.le_refl _) (Nat.le_succ _))⟩
set_option maxHeartbeats 1000000 in
theorem each_need (b : ByteArray) (l : List Sym) (e : Int) (hT : PTab b l e) (hne : e ≠ 0 → l = []) (c : Nat) (w : World) (hM : Magic w) (hc : w.heap[c]? = some (.cells #[.slice none 0 0] 33 (0, 0))) (hl : l.length ≤ 1717960704) :
    Calls Tryd.prog 38 #[.string b, (.func (.func 41) #[] #[.pointer (some ⟨c, 0, none⟩)])] w fun r w' => r = .returned (.tuple #[]) ∧ NmAt w.heap.size c ((l.filter needB).map Sym.name) w' ∧ Kz c w.heap.size w w' := by
  have HT := Hid.mk' (hT w hM)
  have hcl : c < w.heap.size := (Array.getElem?_eq_some_iff.1 hc).1
  clear hT
  by_cases he : e = 0
  case neg =>
    have hen : (e != 0) = true := bne_iff_ne.2 he
    obtain rfl := hne he
    clear hne
    go_enter Tryd.func38, Tryd.ntmps38
    go_wp2_with (first | (go_at_call 10; refine (HT.out).mono ?_; rintro r w1 ⟨v1, rfl, hs1, hb1⟩))
    exact bodyPost_ret (results_none rfl _ _ _) rfl ⟨rfl, ⟨_, (hb1.block c hcl).trans hc, World.ownsRow_nil _ _ _ _⟩, Kz.of hb1⟩
  subst he
  clear hne
  go_enter Tryd.func38, Tryd.ntmps38
  go_wp2_with (first | (go_at_call 10; refine (HT.out).mono ?_; rintro r w1 ⟨v1, rfl, hs1, hb1⟩; obtain ⟨ao, cp, rfl, hA⟩ := own_syms hs1))
  have HA := Hid.mk' hA
  have hsz := hb1.size
  have hc1 : w1.heap[c]? = some (.cells #[.slice none 0 0] 33 (0, 0)) := (hb1.block c hcl).trans hc
  have HB1 := Hid.mk' (And.intro hb1 (And.intro hcl hsz))
  obtain ⟨n, hln⟩ : ∃ n, l.length = n := ⟨_, rfl⟩
  have HLN := Hid.mk' hln
  rw [hln] at hl ⊢
  have h0 : NmAt w1.heap.size c (((l.take 0).filter needB).map Sym.name) w1 := ⟨_, hc1, World.ownsRow_nil _ _ _ _⟩
  clear hA hs1 hb1 hc hc1 HT hM hln
  go_loopw [17] (fun a wx => ∃ i : Nat, i ≤ n ∧ a = .int .i64 i ∧ NmAt w1.heap.size c (((l.take i).filter needB).map Sym.name) wx ∧ Kz c w1.heap.size w1 wx) (fun a _ => n - (intOf a).toNat)
  case atStart => exact ⟨0, Nat.zero_le _, rfl, h0, Kz.refl _ _ _⟩
  case round =>
    clear h0
    obtain ⟨i, hi, rfl, hN, hK⟩ := hrel
    by_cases hin : i < n
    · have hlt : i < l.length := by rw [HLN.out]; exact hin
      have hx : l[i]? = some l[i] := List.getElem?_eq_getElem hlt
      obtain ⟨g, rfl, hgw, hg⟩ := HA.out (by rw [HLN.out]; omega)
      have hkl : (((l.take i).filter needB).map Sym.name).length ≤ 1717960704 := by
        rw [List.length_map]
        refine Nat.le_trans (List.length_filter_le _ _) ?_
        rw [List.length_take, HLN.out]
        omega
      have hts := take_step l needB i _ hx
      generalize l[i] = x at hx hts
      obtain ⟨xn, xb, xt, xo, xs, xv, xz⟩ := x
      have hgB : g < w1.heap.size := lt_of_cell ((hg i 0 _ hx (by omega)).trans rfl)
      have cw (m : Nat) : wr.cell? ⟨g, m, none⟩ = w1.cell? ⟨g, m, none⟩ := World.cell?_of_block (w := w1) (hK.block g (by have := HB1.out.2.1; show g ≠ c; omega) hgB)
      have a0 : wr.cell? ⟨g, i * 7, none⟩ = some (.string xn) := by rw [cw]; exact hg i 0 _ hx (by omega)
      have a1 : wr.cell? ⟨g, i * 7 + 1, none⟩ = some (.int .i64 (xb : Int)) := by rw [cw]; exact hg i 1 _ hx (by omega)
      have a2 : wr.cell? ⟨g, i * 7 + 2, none⟩ = some (.int .i64 (xt : Int)) := by rw [cw]; exact hg i 2 _ hx (by omega)
      have a3 : wr.cell? ⟨g, i * 7 + 3, none⟩ = some (.int .i64 (xo : Int)) := by rw [cw]; exact hg i 3 _ hx (by omega)
      have a4 : wr.cell? ⟨g, i * 7 + 4, none⟩ = some (.int .i64 (xs : Int)) := by rw [cw]; exact hg i 4 _ hx (by omega)
      have a5 : wr.cell? ⟨g, i * 7 + 5, none⟩ = some (.int .u64 (xv : Int)) := by rw [cw]; exact hg i 5 _ hx (by omega)
      have a6 : wr.cell? ⟨g, i * 7 + 6, none⟩ = some (.int .u64 (xz : Int)) := by rw [cw]; exact hg i 6 _ hx (by omega)
      have hiI : (i : Int) < (n : Int) := Int.ofNat_lt.2 hin
      have hi0 : (0 : Int) ≤ (i : Int) := Int.natCast_nonneg _
      have hbx : (wr.alloc (.cells #[.string xn, .int .i64 (xb : Int), .int .i64 (xt : Int), .int .i64 (xo : Int), .int .i64 (xs : Int), .int .u64 (xv : Int), .int .u64 (xz : Int)] 61)).heap[wr.heap.size]? = some (.cells #[.string xn, .int .i64 (xb : Int), .int .i64 (xt : Int), .int .i64 (xo : Int), .int .i64 (xs : Int), .int .u64 (xv : Int), .int .u64 (xz : Int)] 61 (0, 0)) := heap_alloc_new wr _
      have hbA : Below wr.heap.size wr (wr.alloc (.cells #[.string xn, .int .i64 (xb : Int), .int .i64 (xt : Int), .int .i64 (xo : Int), .int .i64 (xs : Int), .int .u64 (xv : Int), .int .u64 (xz : Int)] 61)) := Below.alloc (Below.refl _ _) (Nat.le_refl _) _
      have hcc : c < w1.heap.size := Nat.lt_of_lt_of_le HB1.out.2.1 HB1.out.2.2
      have HC := Hid.mk' (clo_need xn xb xt xo xs xv xz c w1.heap.size _ (wr.alloc (.cells #[.string xn, .int .i64 (xb : Int), .int .i64 (xt : Int), .int .i64 (xo : Int), .int .i64 (xs : Int), .int .u64 (xv : Int), .int .u64 (xz : Int)] 61)) (hN.kept hbA) hcc (Nat.le_trans hK.size hbA.size) hkl)
      have HTS := Hid.mk' hts
      have HKZ := Hid.mk' (And.intro hK (Kz.of (k := c) (hbA.mono hK.size)))
      clear hg hx cw hgB hgw hkl hts hN hK hbA hlt
      go_wp2_with (first
        | (refine wpList_load_row rfl _ _ rfl wr.heap.size rfl _ _ _ _ hbx Tryd.underlying61 rfl (by kernel_rfl) ?_)
        | (go_at_call 41; refine (HC.out).mono ?_; rintro r w4 ⟨rfl, hN4, hK4⟩))
      have HF : Hid (NmAt w1.heap.size c (((l.take (i + 1)).filter needB).map Sym.name) w4 ∧ Kz c w1.heap.size w1 w4) := ⟨by rw [HTS.out]; exact hN4, (HKZ.out.1.trans HKZ.out.2).trans hK4⟩
      clear hN4 hK4
      go_roundw
      case rel => exact ⟨i + 1, hin, by go_num, HF.out⟩
      case measure => clear HF HTS HKZ HC HA HB1; simp [intOf]; omega
    · obtain rfl : i = n := Nat.le_antisymm hi (Nat.not_lt.1 hin)
      have hiI : ¬ (i : Int) < (i : Int) := Int.lt_irrefl _
      have HF := Hid.mk' (And.intro hN hK)
      clear hN hK
      go_wp2
      go_end0
      obtain ⟨hN, hK⟩ := HF.out
      obtain ⟨hb1, hcl, hsz⟩ := HB1.out
      rw [← HLN.out, List.take_length] at hN
      obtain ⟨v, h1, h2⟩ := hN
      refine ⟨rfl, ⟨v, h1, own_base h2 hsz⟩, (Kz.of hb1).trans ⟨hK.os, hK.tape, hK.output, hK.size, fun j h1 h2 => hK.block j h1 (by omega)⟩⟩
set_option maxHeartbeats 1000000 in
theorem Needs_c (b : ByteArray) (l : List Sym) (e : Int) (hT : PTab b l e) (hne : e ≠ 0 → l = []) (hl : l.length ≤ 1717960704) (w : World) (hM : Magic w) :
    Calls Tryd.prog 12 #[.string b] w fun r w' => ∃ v, r = .returned v ∧ w'.ownsRow w.heap.size 9 1 v ((l.filter needB).map Sym.name).length (((l.filter needB).map Sym.name).map .string) ∧ Below w.heap.size w w' := by
  have hmf : ∀ (fn : Fn) (first cap : Array Value) (w : World), (Instr.makeFunc fn first cap).run Tryd.prog w = .ok (.func fn first cap) w := fun _ _ _ _ => rfl
  have hM1 : Magic (w.alloc (.cells #[.slice none 0 0] 33)) := hM.kept (Below.alloc (Below.refl _ _) (Nat.le_refl _) _)
  have HE := Hid.mk' (each_need b l e hT hne w.heap.size _ hM1 (heap_alloc_new w _) hl)
  clear hT hne
  go_enter Tryd.func12, Tryd.ntmps12
  go_wp2_with (first
    | (go_at_call 38; refine (HE.out).mono ?_; rintro r w1 ⟨rfl, ⟨v, hv, hown⟩, hK⟩; obtain ⟨ao5, n5, c5, rfl⟩ := own_slice hown; have q0 : w1.cell? ⟨w.heap.size, 0, none⟩ = some (.slice ao5 n5 c5) := cell_of_row _ _ 0 _ _ _ hv; have HF := Hid.mk' (And.intro hown hK); clear hown hK hv))
  go_ret
  obtain ⟨hown, hK⟩ := HF.out
  rw [size_alloc] at hown hK
  exact ⟨_, rfl, own_base hown (Nat.le_succ _), (Below.alloc (Below.refl _ _) (Nat.le_refl _) _).trans (hK.below (Nat.le_refl _) (Nat.le_succ _))⟩
end Go.Proofs.YtaeigacinefhnabDoor

-- The document's Globals and Needs: contracts.
namespace Go.Proofs.YtaeigacinefhnabDoor
open Go.ChangeShapes Go.WideShapes Go.ChangeAt Go.RowKit
set_option linter.unusedVariables false
set_option maxRecDepth 100000
set_option maxHeartbeats 2000000 in
theorem dGlobals_c (b : ByteArray) (l : List Sym) (e : Int) (hT : DTab b l e) (hne : e ≠ 0 → l = []) (hl : l.length ≤ 1717960704) (w : World) :
    Calls Tryd.prog 18 #[.string b] w fun r w' => ∃ v, r = .returned v ∧ w'.ownsRow w.heap.size 9 1 v ((l.filter offB).map Sym.name).length (((l.filter offB).map Sym.name).map .string) ∧ Below w.heap.size w w' := by
  have HT := Hid.mk' (hT w)
  clear hT
  by_cases he : e = 0
  case neg =>
    have hen : (e != 0) = true := bne_iff_ne.2 he
    obtain rfl := hne he
    clear hne
    go_enter Tryd.func18, Tryd.ntmps18
    go_wp2_with (first | (go_at_call 20; refine (HT.out).mono ?_; rintro r w1 ⟨v1, rfl, hs1, hb1⟩))
    go_ret
    exact ⟨_, rfl, World.ownsRow_nil _ _ _ _, hb1⟩
  subst he
  clear hne
  obtain ⟨i0, hi, hz0, hz1, hz2⟩ := info_parts' infoStr
  go_enter Tryd.func18, Tryd.ntmps18
  go_wp2_with (first | (go_at_call 20; refine (HT.out).mono ?_; rintro r w1 ⟨v1, rfl, hs1, hb1⟩; obtain ⟨ao, cp, rfl, hA⟩ := own_syms hs1))
  have HA := Hid.mk' hA
  have HB1 := Hid.mk' hb1
  have hsz := hb1.size
  obtain ⟨n, hln⟩ : ∃ n, l.length = n := ⟨_, rfl⟩
  have HLN := Hid.mk' hln
  rw [hln] at hl ⊢
  clear hA hs1 hb1 HT hln
  go_loopw [5, 6] (fun u a wx => ∃ i : Nat, i ≤ n ∧ a = .int .i64 i ∧ wx.ownsRow w1.heap.size 9 1 u (((l.take i).filter offB).map Sym.name).length ((((l.take i).filter offB).map Sym.name).map .string) ∧ Below w1.heap.size w1 wx) (fun _ a _ => n - (intOf a).toNat)
  case atStart => exact ⟨0, Nat.zero_le _, rfl, World.ownsRow_nil _ _ _ _, Below.refl _ _⟩
  case round =>
    obtain ⟨i, hin', rfl, hown, hK⟩ := hrel
    by_cases hin : i < n
    · have hlt : i < l.length := by rw [HLN.out]; exact hin
      have hx : l[i]? = some l[i] := List.getElem?_eq_getElem hlt
      obtain ⟨g, rfl, hgw, hg⟩ := HA.out (by rw [HLN.out]; omega)
      have hkl : (((l.take i).filter offB).map Sym.name).length ≤ 1717960704 := by
        rw [List.length_map]
        refine Nat.le_trans (List.length_filter_le _ _) ?_
        rw [List.length_take, HLN.out]
        omega
      have hts := take_step l offB i _ hx
      generalize l[i] = x at hx hts
      obtain ⟨xn, xb, xt, xo, xs, xv, xz⟩ := x
      generalize (((l.take i).filter offB).map Sym.name) = k at hown hkl hts
      have hgB : g < w1.heap.size := lt_of_cell ((hg i 0 _ hx (by omega)).trans rfl)
      have cw (m : Nat) : wr.cell? ⟨g, m, none⟩ = w1.cell? ⟨g, m, none⟩ := hK.cell hgB
      have a0 : wr.cell? ⟨g, i * 7, none⟩ = some (.string xn) := by rw [cw]; exact hg i 0 _ hx (by omega)
      have a1 : wr.cell? ⟨g, i * 7 + 1, none⟩ = some (.int .i64 (xb : Int)) := by rw [cw]; exact hg i 1 _ hx (by omega)
      have a2 : wr.cell? ⟨g, i * 7 + 2, none⟩ = some (.int .i64 (xt : Int)) := by rw [cw]; exact hg i 2 _ hx (by omega)
      have a3 : wr.cell? ⟨g, i * 7 + 3, none⟩ = some (.int .i64 (xo : Int)) := by rw [cw]; exact hg i 3 _ hx (by omega)
      have a4 : wr.cell? ⟨g, i * 7 + 4, none⟩ = some (.int .i64 (xs : Int)) := by rw [cw]; exact hg i 4 _ hx (by omega)
      have a5 : wr.cell? ⟨g, i * 7 + 5, none⟩ = some (.int .u64 (xv : Int)) := by rw [cw]; exact hg i 5 _ hx (by omega)
      have a6 : wr.cell? ⟨g, i * 7 + 6, none⟩ = some (.int .u64 (xz : Int)) := by rw [cw]; exact hg i 6 _ hx (by omega)
      have hiI : (i : Int) < (n : Int) := Int.ofNat_lt.2 hin
      have hi0 : (0 : Int) ≤ (i : Int) := Int.natCast_nonneg _
      have HP : Hid (∀ w : World, Calls Tryd.prog 43 #[.agg #[.string xn, .int .i64 (xb : Int), .int .i64 (xt : Int), .int .i64 (xo : Int), .int .i64 (xs : Int), .int .u64 (xv : Int), .int .u64 (xz : Int)]] w fun r w' => r = .returned (.bool (offB ⟨xn, xb, xt, xo, xs, xv, xz⟩)) ∧ Below w.heap.size w w') := fun w => told_c xn xb xt xo xs xv xz w
      cases hp : offB ⟨xn, xb, xt, xo, xs, xv, xz⟩ with
      | false =>
        rw [hp] at HP hts
        rw [if_neg (by decide)] at hts
        have HO := Hid.mk' (And.intro hown (And.intro hK hts))
        clear hg hx cw hgB hgw hkl hts hown hK hlt
        go_wp2_with (first
          | (go_at_call 43; refine (HP.out _).mono ?_; rintro r w4 ⟨rfl, hb4⟩))
        go_roundw
        case rel =>
          obtain ⟨hown, hK, hts⟩ := HO.out
          exact ⟨i + 1, hin, by go_num, by rw [hts]; exact own_below hown hb4, hK.trans (hb4.mono hK.size)⟩
        case measure => clear HO HA HB1; simp [intOf]; omega
      | true =>
        rw [hp] at HP hts
        rw [if_pos rfl] at hts
        have HO := Hid.mk' (And.intro hown (And.intro hK hts))
        have hc3 : k.length + 1 ≤ maxLen := by unfold maxLen; omega
        have hc4 : (k.length + 1) * 16 ≤ 140737488355328 := by omega
        have hgr : g < wr.heap.size := Nat.lt_of_lt_of_le hgB hK.size
        clear hg hx cw hgB hgw hkl hts hlt
        go_wp2_with fail
        go_at_call 43
        refine (HP.out _).mono ?_
        rintro r w4 ⟨rfl, hb4⟩
        have q0 : w4.cell? ⟨g, i * 7, none⟩ = some (.string xn) := (hb4.cell hgr).trans a0
        have hOW := (own_below hown hb4).alloc (.cells #[.string xn] 9)
        have hB4 : w1.heap.size ≤ w4.heap.size := Nat.le_trans hK.size hb4.size
        clear hown hK
        go_wp2_with (first
          | (at_builtin; refine wpList_append_own _ rfl _ _ 33 rfl w1.heap.size 9 i0 (.string ⟨#[]⟩) 1 16 Tryd.underlying33 hi hz0 hz1 hz2 rfl (by decide) _ _ _ rfl hOW ⟨w4.heap.size, 0, none⟩ 1 1 [.string xn] rfl rfl ?c1 (by intro u hu; simp at hu; subst hu; rfl) ?c3 ?c4 ?c5 ?_))
        case c1 =>
          intro q u hu
          rw [Addr.add_mid, Nat.zero_add, cell_of_row _ _ _ _ _ _ (heap_alloc_new w4 _)]
          simpa using hu
        case c3 => exact hc3
        case c4 => exact hc4
        case c5 => rw [size_alloc]; exact Nat.le_succ_of_le hB4
        intro v' w5 hown5 hgrow _
        obtain ⟨hown, hK, hts⟩ := HO.out
        have hrow : ∀ q, u5.ownBlock = some q → w1.heap.size ≤ q := fun q hq => (hown.lt q hq).1
        have hbR : Below w1.heap.size w4 w5 := Below.grown (Below.alloc (Below.refl _ _) hB4 _) hgrow (by rw [size_alloc]; omega) hrow
        have HF : Hid (w5.ownsRow w1.heap.size 9 1 v' (((l.take (i + 1)).filter offB).map Sym.name).length ((((l.take (i + 1)).filter offB).map Sym.name).map .string) ∧ Below w1.heap.size w1 w5) := ⟨by rw [hts, List.length_append, List.map_append]; exact hown5, (hK.trans (hb4.mono hK.size)).trans hbR⟩
        clear hown hK hts hrow hbR hown5 hgrow hOW HO
        go_wp2
        go_roundw
        case rel => exact ⟨i + 1, hin, by go_num, HF.out⟩
        case measure => clear HF HA HB1; simp [intOf]; omega
    · obtain rfl : i = n := Nat.le_antisymm hin' (Nat.not_lt.1 hin)
      have hiI : ¬ (i : Int) < (i : Int) := Int.lt_irrefl _
      have HF := Hid.mk' (And.intro hown hK)
      clear hown hK
      go_wp2
      go_ret
      obtain ⟨hown, hK⟩ := HF.out
      rw [← HLN.out, List.take_length] at hown
      refine ⟨u5, rfl, ?_, HB1.out.trans (hK.mono hsz)⟩
      have hfin := own_base hown hsz
      rw [List.length_map, List.map_map] at hfin
      exact hfin
set_option maxHeartbeats 2000000 in
theorem dNeeds_c (b : ByteArray) (l : List Sym) (e : Int) (hT : DTab b l e) (hne : e ≠ 0 → l = []) (hl : l.length ≤ 1717960704) (w : World) :
    Calls Tryd.prog 19 #[.string b] w fun r w' => ∃ v, r = .returned v ∧ w'.ownsRow w.heap.size 9 1 v ((l.filter needB).map Sym.name).length (((l.filter needB).map Sym.name).map .string) ∧ Below w.heap.size w w' := by
  have HT := Hid.mk' (hT w)
  clear hT
  by_cases he : e = 0
  case neg =>
    have hen : (e != 0) = true := bne_iff_ne.2 he
    obtain rfl := hne he
    clear hne
    go_enter Tryd.func19, Tryd.ntmps19
    go_wp2_with (first | (go_at_call 20; refine (HT.out).mono ?_; rintro r w1 ⟨v1, rfl, hs1, hb1⟩))
    go_ret
    exact ⟨_, rfl, World.ownsRow_nil _ _ _ _, hb1⟩
  subst he
  clear hne
  obtain ⟨i0, hi, hz0, hz1, hz2⟩ := info_parts' infoStr
  go_enter Tryd.func19, Tryd.ntmps19
  go_wp2_with (first | (go_at_call 20; refine (HT.out).mono ?_; rintro r w1 ⟨v1, rfl, hs1, hb1⟩; obtain ⟨ao, cp, rfl, hA⟩ := own_syms hs1))
  have HA := Hid.mk' hA
  have HB1 := Hid.mk' hb1
  have hsz := hb1.size
  obtain ⟨n, hln⟩ : ∃ n, l.length = n := ⟨_, rfl⟩
  have HLN := Hid.mk' hln
  rw [hln] at hl ⊢
  clear hA hs1 hb1 HT hln
  go_loopw [5, 6] (fun u a wx => ∃ i : Nat, i ≤ n ∧ a = .int .i64 i ∧ wx.ownsRow w1.heap.size 9 1 u (((l.take i).filter needB).map Sym.name).length ((((l.take i).filter needB).map Sym.name).map .string) ∧ Below w1.heap.size w1 wx) (fun _ a _ => n - (intOf a).toNat)
  case atStart => exact ⟨0, Nat.zero_le _, rfl, World.ownsRow_nil _ _ _ _, Below.refl _ _⟩
  case round =>
    obtain ⟨i, hin', rfl, hown, hK⟩ := hrel
    by_cases hin : i < n
    · have hlt : i < l.length := by rw [HLN.out]; exact hin
      have hx : l[i]? = some l[i] := List.getElem?_eq_getElem hlt
      obtain ⟨g, rfl, hgw, hg⟩ := HA.out (by rw [HLN.out]; omega)
      have hkl : (((l.take i).filter needB).map Sym.name).length ≤ 1717960704 := by
        rw [List.length_map]
        refine Nat.le_trans (List.length_filter_le _ _) ?_
        rw [List.length_take, HLN.out]
        omega
      have hts := take_step l needB i _ hx
      generalize l[i] = x at hx hts
      obtain ⟨xn, xb, xt, xo, xs, xv, xz⟩ := x
      generalize (((l.take i).filter needB).map Sym.name) = k at hown hkl hts
      have hgB : g < w1.heap.size := lt_of_cell ((hg i 0 _ hx (by omega)).trans rfl)
      have cw (m : Nat) : wr.cell? ⟨g, m, none⟩ = w1.cell? ⟨g, m, none⟩ := hK.cell hgB
      have a0 : wr.cell? ⟨g, i * 7, none⟩ = some (.string xn) := by rw [cw]; exact hg i 0 _ hx (by omega)
      have a1 : wr.cell? ⟨g, i * 7 + 1, none⟩ = some (.int .i64 (xb : Int)) := by rw [cw]; exact hg i 1 _ hx (by omega)
      have a2 : wr.cell? ⟨g, i * 7 + 2, none⟩ = some (.int .i64 (xt : Int)) := by rw [cw]; exact hg i 2 _ hx (by omega)
      have a3 : wr.cell? ⟨g, i * 7 + 3, none⟩ = some (.int .i64 (xo : Int)) := by rw [cw]; exact hg i 3 _ hx (by omega)
      have a4 : wr.cell? ⟨g, i * 7 + 4, none⟩ = some (.int .i64 (xs : Int)) := by rw [cw]; exact hg i 4 _ hx (by omega)
      have a5 : wr.cell? ⟨g, i * 7 + 5, none⟩ = some (.int .u64 (xv : Int)) := by rw [cw]; exact hg i 5 _ hx (by omega)
      have a6 : wr.cell? ⟨g, i * 7 + 6, none⟩ = some (.int .u64 (xz : Int)) := by rw [cw]; exact hg i 6 _ hx (by omega)
      have hiI : (i : Int) < (n : Int) := Int.ofNat_lt.2 hin
      have hi0 : (0 : Int) ≤ (i : Int) := Int.natCast_nonneg _
      have HP : Hid (∀ w : World, Calls Tryd.prog 44 #[.agg #[.string xn, .int .i64 (xb : Int), .int .i64 (xt : Int), .int .i64 (xo : Int), .int .i64 (xs : Int), .int .u64 (xv : Int), .int .u64 (xz : Int)]] w fun r w' => r = .returned (.bool (needB ⟨xn, xb, xt, xo, xs, xv, xz⟩)) ∧ Below w.heap.size w w') := fun w => wanted_c xn xb xt xo xs xv xz w
      cases hp : needB ⟨xn, xb, xt, xo, xs, xv, xz⟩ with
      | false =>
        rw [hp] at HP hts
        rw [if_neg (by decide)] at hts
        have HO := Hid.mk' (And.intro hown (And.intro hK hts))
        clear hg hx cw hgB hgw hkl hts hown hK hlt
        go_wp2_with (first
          | (go_at_call 44; refine (HP.out _).mono ?_; rintro r w4 ⟨rfl, hb4⟩))
        go_roundw
        case rel =>
          obtain ⟨hown, hK, hts⟩ := HO.out
          exact ⟨i + 1, hin, by go_num, by rw [hts]; exact own_below hown hb4, hK.trans (hb4.mono hK.size)⟩
        case measure => clear HO HA HB1; simp [intOf]; omega
      | true =>
        rw [hp] at HP hts
        rw [if_pos rfl] at hts
        have HO := Hid.mk' (And.intro hown (And.intro hK hts))
        have hc3 : k.length + 1 ≤ maxLen := by unfold maxLen; omega
        have hc4 : (k.length + 1) * 16 ≤ 140737488355328 := by omega
        have hgr : g < wr.heap.size := Nat.lt_of_lt_of_le hgB hK.size
        clear hg hx cw hgB hgw hkl hts hlt
        go_wp2_with fail
        go_at_call 44
        refine (HP.out _).mono ?_
        rintro r w4 ⟨rfl, hb4⟩
        have q0 : w4.cell? ⟨g, i * 7, none⟩ = some (.string xn) := (hb4.cell hgr).trans a0
        have hOW := (own_below hown hb4).alloc (.cells #[.string xn] 9)
        have hB4 : w1.heap.size ≤ w4.heap.size := Nat.le_trans hK.size hb4.size
        clear hown hK
        go_wp2_with (first
          | (at_builtin; refine wpList_append_own _ rfl _ _ 33 rfl w1.heap.size 9 i0 (.string ⟨#[]⟩) 1 16 Tryd.underlying33 hi hz0 hz1 hz2 rfl (by decide) _ _ _ rfl hOW ⟨w4.heap.size, 0, none⟩ 1 1 [.string xn] rfl rfl ?c1 (by intro u hu; simp at hu; subst hu; rfl) ?c3 ?c4 ?c5 ?_))
        case c1 =>
          intro q u hu
          rw [Addr.add_mid, Nat.zero_add, cell_of_row _ _ _ _ _ _ (heap_alloc_new w4 _)]
          simpa using hu
        case c3 => exact hc3
        case c4 => exact hc4
        case c5 => rw [size_alloc]; exact Nat.le_succ_of_le hB4
        intro v' w5 hown5 hgrow _
        obtain ⟨hown, hK, hts⟩ := HO.out
        have hrow : ∀ q, u5.ownBlock = some q → w1.heap.size ≤ q := fun q hq => (hown.lt q hq).1
        have hbR : Below w1.heap.size w4 w5 := Below.grown (Below.alloc (Below.refl _ _) hB4 _) hgrow (by rw [size_alloc]; omega) hrow
        have HF : Hid (w5.ownsRow w1.heap.size 9 1 v' (((l.take (i + 1)).filter needB).map Sym.name).length ((((l.take (i + 1)).filter needB).map Sym.name).map .string) ∧ Below w1.heap.size w1 w5) := ⟨by rw [hts, List.length_append, List.map_append]; exact hown5, (hK.trans (hb4.mono hK.size)).trans hbR⟩
        clear hown hK hts hrow hbR hown5 hgrow hOW HO
        go_wp2
        go_roundw
        case rel => exact ⟨i + 1, hin, by go_num, HF.out⟩
        case measure => clear HF HA HB1; simp [intOf]; omega
    · obtain rfl : i = n := Nat.le_antisymm hin' (Nat.not_lt.1 hin)
      have hiI : ¬ (i : Int) < (i : Int) := Int.lt_irrefl _
      have HF := Hid.mk' (And.intro hown hK)
      clear hown hK
      go_wp2
      go_ret
      obtain ⟨hown, hK⟩ := HF.out
      rw [← HLN.out, List.take_length] at hown
      refine ⟨u5, rfl, ?_, HB1.out.trans (hK.mono hsz)⟩
      have hfin := own_base hown hsz
      rw [List.length_map, List.map_map] at hfin
      exact hfin
end Go.Proofs.YtaeigacinefhnabDoor
