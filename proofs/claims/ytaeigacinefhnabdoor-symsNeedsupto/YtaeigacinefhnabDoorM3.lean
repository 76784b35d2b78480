import Derived.Test.YtaeigacinefhnabDoorM1
import Derived.Test.YtaeigacinefhnabDoorN4
import Derived.Test.YtaeigacinefhnabDoorC2
import Derived.Test.YtaeigacinefhnabDoorH0
import Derived.Test.YtaeigacinefhnabDoorR3
import Derived.Shelf.Spec.SlicesGrow
import Derived.OwnWalk

-- Plain: sections, symbols, and what a file's symbol tables tell.
namespace Go.Proofs.YtaeigacinefhnabDoor
set_option linter.unusedVariables false
set_option maxRecDepth 100000
/-- a symbol -/
structure Sym where
  name : ByteArray
  bind : Nat
  typ : Nat
  oth : Nat
  sect : Nat
  value : Nat
  size : Nat
/-- the bytes of an entry, by class -/
def symLen (c : Nat) : Nat := if c = 32 then 16 else 24
/-- a section's bytes -/
def cont (b : ByteArray) (s : Sec) : Option ByteArray :=
  if s.ty = 8 then some .empty else if s.off ≤ b.size ∧ s.sz ≤ b.size - s.off then some (b.extract s.off (s.off + s.sz)) else none
/-- the string at a place: up to the first byte 0 -/
def strAt (t : ByteArray) (off : Nat) : Option ByteArray :=
  ((List.range t.size).find? fun j => decide (off ≤ j) && decide (byt t j = 0)).map fun j => t.extract off j
theorem strAt_some {t : ByteArray} {off j : Nat} (h : StrAt t off j) : strAt t off = some (t.extract off j) := by
  obtain ⟨h1, h2, h3, h4⟩ := h
  have hf : ((List.range t.size).find? fun j => decide (off ≤ j) && decide (byt t j = 0)) = some j := by
    rw [List.find?_range_eq_some]
    refine ⟨by simp [h1, h3], List.mem_range.2 h2, fun i hi => ?_⟩
    by_cases ho : off ≤ i
    · simp [h4 i ho hi]
    · simp [ho]
  unfold strAt
  rw [hf]
  rfl
theorem strAt_none {t : ByteArray} {off : Nat} (h : NoStr t off) : strAt t off = none := by
  have hf : ((List.range t.size).find? fun j => decide (off ≤ j) && decide (byt t j = 0)) = none := by
    rw [List.find?_range_eq_none]
    intro i hi
    by_cases ho : off ≤ i
    · simp [h i ho hi]
    · simp [ho]
  unfold strAt
  rw [hf]
  rfl
/-- the name of an entry -/
def nameOf (t : ByteArray) (p : Nat) : Option ByteArray := if p = 0 then some .empty else strAt t p
/-- the symbol that stands at p in t, but for its name -/
def symAt (c : Nat) (o : Int) (t : ByteArray) (p : Nat) (name : ByteArray) : Sym :=
  if c = 32 then ⟨name, num t (p + 12) 1 o / 16, num t (p + 12) 1 o % 16, num t (p + 13) 1 o, num t (p + 14) 2 o, num t (p + 4) 4 o, num t (p + 8) 4 o⟩
  else ⟨name, num t (p + 4) 1 o / 16, num t (p + 4) 1 o % 16, num t (p + 5) 1 o, num t (p + 6) 2 o, num t (p + 8) 8 o, num t (p + 16) 8 o⟩
/-- the first k symbols of a table; none: one has no name -/
def symsOf (c : Nat) (o : Int) (t names : ByteArray) : Nat → Option (List Sym)
  | 0 => some []
  | k + 1 => (symsOf c o t names k).bind fun l => (nameOf names (num t (k * symLen c) 4 o)).map fun n => l ++ [symAt c o t (k * symLen c) n]
theorem symsOf_length (c : Nat) (o : Int) (t names : ByteArray) : ∀ (k : Nat) (l : List Sym), symsOf c o t names k = some l → l.length = k
  | 0, l, h => by simp [symsOf] at h; subst h; rfl
  | k + 1, l, h => by
    simp only [symsOf, Option.bind_eq_some_iff, Option.map_eq_some_iff] at h
    obtain ⟨l', h1, n, _, rfl⟩ := h
    rw [List.length_append, symsOf_length c o t names k l' h1]; rfl
theorem symsOf_none {c : Nat} {o : Int} {t names : ByteArray} {k : Nat} (h : symsOf c o t names k = none) : ∀ m, symsOf c o t names (k + m) = none
  | 0 => h
  | m + 1 => by rw [← Nat.add_assoc, symsOf, symsOf_none h m]; rfl
/-- what opening a symbol table finds: its bytes and its names; or the refusal -/
def openOf (b : ByteArray) (c n : Nat) (s : Nat → Sec) (x : Sec) : Except Int (ByteArray × ByteArray) :=
  if x.en = symLen c ∧ x.sz % symLen c = 0 then
    match cont b x with
    | none => .error 54
    | some t => if x.li < n ∧ (s x.li).ty = 3 then
        match cont b (s x.li) with
        | none => .error 54
        | some names => .ok (t, names)
      else .error 60
  else .error 55
/-- the symbols of one table -/
def oneOf (b : ByteArray) (c : Nat) (o : Int) (n : Nat) (s : Nat → Sec) (x : Sec) : Except Int (List Sym) :=
  match openOf b c n s x with
  | .error e => .error e
  | .ok (t, names) => match symsOf c o t names (t.size / symLen c) with
    | none => .error 56
    | some l => .ok l
/-- the symbols of the tables among the first k sections -/
def tabOf (b : ByteArray) (c : Nat) (o : Int) (n : Nat) (s : Nat → Sec) : Nat → Except Int (List Sym)
  | 0 => .ok []
  | k + 1 => match tabOf b c o n s k with
    | .error e => .error e
    | .ok l => if (s k).ty = 2 then (match oneOf b c o n s (s k) with
        | .error e => .error e
        | .ok m => .ok (l ++ m)) else .ok l
theorem tabOf_err {b : ByteArray} {c : Nat} {o : Int} {n : Nat} {s : Nat → Sec} {k : Nat} {e : Int} (h : tabOf b c o n s k = .error e) : ∀ m, tabOf b c o n s (k + m) = .error e
  | 0 => h
  | m + 1 => by rw [← Nat.add_assoc, tabOf, tabOf_err h m]
theorem cont_size {b : ByteArray} {s : Sec} {t : ByteArray} (h : cont b s = some t) (hb : b.size ≤ 1048576) : t.size ≤ 1048576 := by
  unfold cont at h
  split at h
  · cases h; decide
  · split at h
    · cases h; rw [ByteArray.size_extract]; omega
    · cases h
theorem symLen_pos (c : Nat) : 16 ≤ symLen c ∧ symLen c ≤ 24 := by unfold symLen; split <;> omega
theorem open_size {b : ByteArray} {c n : Nat} {s : Nat → Sec} {x : Sec} {t names : ByteArray} (h : openOf b c n s x = .ok (t, names)) (hx : x.ty = 2) (hb : b.size ≤ 1048576) :
    t.size ≤ 1048576 ∧ names.size ≤ 1048576 ∧ t.size % symLen c = 0 := by
  unfold openOf at h
  split at h
  · rename_i h1
    split at h
    · cases h
    · rename_i t' ht
      split at h
      · split at h
        · cases h
        · rename_i n' hn
          cases h
          refine ⟨cont_size ht hb, cont_size hn hb, ?_⟩
          unfold cont at ht
          rw [if_neg (by omega)] at ht
          split at ht
          · rename_i h2
            cases ht
            rw [ByteArray.size_extract, show min (x.off + x.sz) b.size - x.off = x.sz by omega]
            exact h1.2
          · cases ht
      · cases h
  · cases h
theorem one_length {b : ByteArray} {c : Nat} {o : Int} {n : Nat} {s : Nat → Sec} {x : Sec} {l : List Sym} (h : oneOf b c o n s x = .ok l) (hx : x.ty = 2) (hb : b.size ≤ 1048576) : l.length ≤ 65536 := by
  unfold oneOf at h
  split at h
  · cases h
  · rename_i t names ho
    split at h
    · cases h
    · rename_i l' hl
      cases h
      rw [symsOf_length _ _ _ _ _ _ hl]
      have h1 := (open_size ho hx hb).1
      have h2 := symLen_pos c
      calc t.size / symLen c ≤ t.size / 16 := Nat.div_le_div_left h2.1 (by omega)
        _ ≤ 65536 := by omega
theorem tab_length {b : ByteArray} {c : Nat} {o : Int} {n : Nat} {s : Nat → Sec} (hb : b.size ≤ 1048576) : ∀ (k : Nat) (l : List Sym), tabOf b c o n s k = .ok l → l.length ≤ k * 65536
  | 0, l, h => by cases h; simp
  | k + 1, l, h => by
    simp only [tabOf] at h
    split at h
    · cases h
    · rename_i l' hl
      have ih := tab_length hb k l' hl
      split at h
      · rename_i h2
        split at h
        · cases h
        · rename_i m hm
          cases h
          have := one_length hm h2 hb
          rw [List.length_append]; omega
      · obtain rfl := Except.ok.inj h
        exact Nat.le_trans ih (Nat.mul_le_mul_right _ (Nat.le_succ k))
/-- the cells of a symbol -/
def symV (x : Sym) : List Value := [.string x.name, .int .i64 x.bind, .int .i64 x.typ, .int .i64 x.oth, .int .i64 x.sect, .int .u64 x.value, .int .u64 x.size]
def symsV (l : List Sym) : List Value := l.flatMap symV
theorem symsV_cons (x : Sym) (l : List Sym) : symsV (x :: l) = symV x ++ symsV l := rfl
theorem symsV_length : ∀ l : List Sym, (symsV l).length = l.length * 7
  | [] => rfl
  | x :: l => by rw [symsV_cons, List.length_append, symsV_length l, List.length_cons]; show 7 + l.length * 7 = _; omega
theorem symsV_append (l m : List Sym) : symsV (l ++ m) = symsV l ++ symsV m := by unfold symsV; rw [List.flatMap_append]
end Go.Proofs.YtaeigacinefhnabDoor

-- Plain: what a file's tables tell, or the refusal.
namespace Go.Proofs.YtaeigacinefhnabDoor
set_option linter.unusedVariables false
set_option maxRecDepth 100000
/-- Table's answer: the refusal, or 0, and the symbols -/
def tabE (b : ByteArray) (c : Nat) (o : Int) (n : Nat) (s : Nat → Sec) (e : Int) : Int := if e = 0 then (match tabOf b c o n s n with | .error f => f | .ok _ => 0) else e
def tabL (b : ByteArray) (c : Nat) (o : Int) (n : Nat) (s : Nat → Sec) (e : Int) : List Sym := if e = 0 then (match tabOf b c o n s n with | .error _ => [] | .ok l => l) else []
theorem tab_e {b : ByteArray} {c : Nat} {o : Int} {n : Nat} {s : Nat → Sec} {e : Int} (h : e ≠ 0) : tabE b c o n s e = e ∧ tabL b c o n s e = [] := ⟨if_neg h, if_neg h⟩
theorem tab_err {b : ByteArray} {c : Nat} {o : Int} {n : Nat} {s : Nat → Sec} {f : Int} (h : tabOf b c o n s n = .error f) : tabE b c o n s 0 = f ∧ tabL b c o n s 0 = [] := by
  unfold tabE tabL
  rw [if_pos rfl, if_pos rfl, h]
  exact ⟨rfl, rfl⟩
theorem tab_ok {b : ByteArray} {c : Nat} {o : Int} {n : Nat} {s : Nat → Sec} {l : List Sym} (h : tabOf b c o n s n = .ok l) : tabE b c o n s 0 = 0 ∧ tabL b c o n s 0 = l := by
  unfold tabE tabL
  rw [if_pos rfl, if_pos rfl, h]
  exact ⟨rfl, rfl⟩
theorem tab_at_err {b : ByteArray} {c : Nat} {o : Int} {n : Nat} {s : Nat → Sec} {i : Nat} {l : List Sym} {f : Int} (h : tabOf b c o n s i = .ok l) (hi : i < n) (h2 : (s i).ty = 2) (ho : oneOf b c o n s (s i) = .error f) : tabOf b c o n s n = .error f := by
  have h1 : tabOf b c o n s (i + 1) = .error f := by rw [tabOf, h]; simp only [if_pos h2, ho]
  rw [show n = i + 1 + (n - (i + 1)) by omega]
  have h2 := tabOf_err h1 (n - (i + 1))
  rw [show i + 1 + (n - (i + 1)) = n by omega] at h2 ⊢
  exact h2
theorem tab_at_ok {b : ByteArray} {c : Nat} {o : Int} {n : Nat} {s : Nat → Sec} {i : Nat} {l m : List Sym} (h : tabOf b c o n s i = .ok l) (h2 : (s i).ty = 2) (ho : oneOf b c o n s (s i) = .ok m) : tabOf b c o n s (i + 1) = .ok (l ++ m) := by rw [tabOf, h]; simp only [if_pos h2, ho]
theorem tab_at_not {b : ByteArray} {c : Nat} {o : Int} {n : Nat} {s : Nat → Sec} {i : Nat} {l : List Sym} (h : tabOf b c o n s i = .ok l) (h2 : (s i).ty ≠ 2) : tabOf b c o n s (i + 1) = .ok l := by rw [tabOf, h]; simp only [if_neg h2]
theorem open_ne {b : ByteArray} {c n : Nat} {s : Nat → Sec} {x : Sec} {e : Int} (h : openOf b c n s x = .error e) : e ≠ 0 := by
  unfold openOf at h
  split at h
  · split at h
    · cases h; decide
    · split at h
      · split at h
        · cases h; decide
        · cases h
      · cases h; decide
  · cases h; decide
theorem one_err {b : ByteArray} {c : Nat} {o : Int} {n : Nat} {s : Nat → Sec} {x : Sec} {e : Int} (h : openOf b c n s x = .error e) : oneOf b c o n s x = .error e := by unfold oneOf; rw [h]
theorem one_none {b : ByteArray} {c : Nat} {o : Int} {n : Nat} {s : Nat → Sec} {x : Sec} {t names : ByteArray} (h : openOf b c n s x = .ok (t, names)) (g : symsOf c o t names (t.size / symLen c) = none) : oneOf b c o n s x = .error 56 := by unfold oneOf; rw [h]; simp only [g]
theorem one_some {b : ByteArray} {c : Nat} {o : Int} {n : Nat} {s : Nat → Sec} {x : Sec} {t names : ByteArray} {l : List Sym} (h : openOf b c n s x = .ok (t, names)) (g : symsOf c o t names (t.size / symLen c) = some l) : oneOf b c o n s x = .ok l := by unfold oneOf; rw [h]; simp only [g]
end Go.Proofs.YtaeigacinefhnabDoor

-- Plain: a refusal is no 0.
namespace Go.Proofs.YtaeigacinefhnabDoor
set_option linter.unusedVariables false
set_option maxRecDepth 100000
theorem one_ne {b : ByteArray} {c : Nat} {o : Int} {n : Nat} {s : Nat → Sec} {x : Sec} {e : Int} (h : oneOf b c o n s x = .error e) : e ≠ 0 := by
  unfold oneOf at h
  split at h
  · rename_i e' he
    obtain rfl := Except.error.inj h
    exact open_ne he
  · split at h
    · cases h; decide
    · cases h
end Go.Proofs.YtaeigacinefhnabDoor

-- syms: the columns of a class, one number of an entry, a name: contracts.
namespace Go.Proofs.YtaeigacinefhnabDoor
open Go.ChangeShapes Go.WideShapes Go.ChangeAt Go.RowKit
set_option linter.unusedVariables false
set_option maxRecDepth 100000
def col32 : Array Value := #[.int .u64 16, .int .i64 0, .int .i64 4, .int .i64 4, .int .i64 4, .int .i64 8, .int .i64 4, .int .i64 12, .int .i64 1, .int .i64 13, .int .i64 1, .int .i64 14, .int .i64 2]
def col64 : Array Value := #[.int .u64 24, .int .i64 0, .int .i64 4, .int .i64 8, .int .i64 8, .int .i64 16, .int .i64 8, .int .i64 4, .int .i64 1, .int .i64 5, .int .i64 1, .int .i64 6, .int .i64 2]
set_option maxHeartbeats 2000000 in
theorem columns_32 (w : World) : Calls Tryd.prog 35 #[.int .i64 32] w fun r w' => r = .returned (.agg col32) ∧ Below w.heap.size w w' := by
  go_enter Tryd.func35, Tryd.ntmps35
  go_wp2_with (refine wpList_store_row rfl _ _ _ rfl w.heap.size col32 rfl rfl _ _ (heap_alloc_new w _) rfl (by kernel_rfl) (by kernel_rfl) ?_)
  exact bodyPost_ret (results_cell_row rfl _ _ w.heap.size _ col32 _ _ rfl (setRow_heap _ _ _ _ _ _ (heap_alloc_new w _)) Tryd.underlying72 rfl (by kernel_rfl)) rfl ⟨rfl, below_setRow (Below.alloc (Below.refl _ _) (Nat.le_refl _) _) (Nat.le_refl _) _⟩
set_option maxHeartbeats 2000000 in
theorem columns_64 (w : World) : Calls Tryd.prog 35 #[.int .i64 64] w fun r w' => r = .returned (.agg col64) ∧ Below w.heap.size w w' := by
  go_enter Tryd.func35, Tryd.ntmps35
  go_wp2_with (refine wpList_store_row rfl _ _ _ rfl w.heap.size col64 rfl rfl _ _ (heap_alloc_new w _) rfl (by kernel_rfl) (by kernel_rfl) ?_)
  exact bodyPost_ret (results_cell_row rfl _ _ w.heap.size _ col64 _ _ rfl (setRow_heap _ _ _ _ _ _ (heap_alloc_new w _)) Tryd.underlying72 rfl (by kernel_rfl)) rfl ⟨rfl, below_setRow (Below.alloc (Below.refl _ _) (Nat.le_refl _) _) (Nat.le_refl _) _⟩
theorem load_any (s : ByteArray) (a K : Nat) (o : Int) (w : World) (ho : o = 0 ∨ o = 1) (hK : K = 1 ∨ K = 2 ∨ K = 4 ∨ K = 8) (ha : a + K ≤ s.size) (hm : s.size ≤ maxLen) :
    Calls Tryd.prog 90 #[.string s, .int .i64 a, .int .i64 K, .int .i64 o] w fun e w' => e = .returned (.tuple #[.int .u64 (num s a K o), .int .i64 0]) ∧ Dr w w' := by
  rcases hK with rfl | hK
  · rcases ho with rfl | rfl
    · exact num_load_little_1 s a 0 w rfl rfl ha hm
    · exact num_load_big_1 s a 1 w rfl rfl ha hm
  · exact load_c s a K o w ho hK ha hm
theorem snumber_c (s : ByteArray) (k : Nat) (a K : Nat) (o : Int) (w : World) (ho : o = 0 ∨ o = 1) (hK : K = 1 ∨ K = 2 ∨ K = 4 ∨ K = 8) (ha : a + K ≤ s.size) (hm : s.size ≤ maxLen) (hO : w.cell? ⟨k, 13, none⟩ = some (.int .i64 o)) :
    Calls Tryd.prog 83 #[.pointer (some ⟨k, 0, none⟩), .string s, .agg #[.int .i64 a, .int .i64 K]] w fun r w' => r = .returned (.int .u64 (num s a K o)) ∧ Below w.heap.size w w' := by
  have hk := lt_of_cell hO
  have hO' : (w.alloc (.cells #[.int .i64 a, .int .i64 K] 70)).cell? ⟨k, 13, none⟩ = some (.int .i64 o) := by rw [World.cell?_alloc_past _ _ _ hk]; exact hO
  have HL := fun w => load_any s a K o w ho hK ha hm
  have HL2 : Hid (∀ w, Calls Tryd.prog 90 #[.string s, .int .i64 a, .int .i64 K, .int .i64 o] w fun e w' => e = .returned (.tuple #[.int .u64 (num s a K o), .int .i64 0]) ∧ Dr w w') := HL
  clear HL ha hm hK ho
  go_enter Tryd.func83, Tryd.ntmps83
  go_wp2_with fail
  go_quiet ((go_at_call 90; exact Calls.quiet_of (HL2.out _)))
  go_wp2
  go_ret
  exact ⟨rfl, below_drewN (Below.alloc (Below.refl _ _) (Nat.le_refl _) _) _⟩
theorem below_of_same {w w' : World} (h : w' = w) : Below w.heap.size w w' := by rw [h]; exact Below.refl _ _
theorem nameAt_ok (t nm : ByteArray) (k p : Nat) (w : World) (hp : p < 4294967296) (hm : t.size ≤ maxLen) (hT : w.cell? ⟨k, 15, none⟩ = some (.string t)) (h : nameOf t p = some nm) :
    Calls Tryd.prog 82 #[.pointer (some ⟨k, 0, none⟩), .int .i64 p] w fun r w' => r = .returned (.tuple #[.string nm, .int .i64 0]) ∧ Below w.heap.size w w' := by
  unfold nameOf at h
  by_cases h0 : p = 0
  · rw [if_pos h0] at h
    obtain rfl := Option.some.inj h
    subst h0
    go_enter Tryd.func82, Tryd.ntmps82
    go_wp2
    go_ret2
    exact ⟨rfl, Below.refl _ _⟩
  · rw [if_neg h0] at h
    have hp0 : ((p : Int) == 0) = false := beq_eq_false_iff_ne.2 (by omega)
    have HS : Hid (∀ w : World, Calls Tryd.prog 89 #[.string t, .int .i64 p] w fun r w' => r = .returned (.tuple #[.string nm, .int .i64 0]) ∧ Below w.heap.size w w') := by
      intro w
      rcases str_or t p with ⟨j, hj⟩ | hj
      · rw [strAt_some hj] at h
        obtain rfl := Option.some.inj h
        exact Str_ok t p _ w fun w => (textAt_ok t p j w hj hm).mono fun r w' ⟨h1, h2⟩ => ⟨h1, below_of_same h2⟩
      · rw [strAt_none hj] at h; cases h
    clear h
    go_enter Tryd.func82, Tryd.ntmps82
    go_wp2_with (first | (go_at_call 89; refine (HS.out _).mono ?_; rintro r w1 ⟨rfl, hb1⟩))
    go_ret2
    exact ⟨rfl, hb1⟩
theorem nameAt_no (t : ByteArray) (k p : Nat) (w : World) (hp : p < 4294967296) (hm : t.size ≤ maxLen) (hT : w.cell? ⟨k, 15, none⟩ = some (.string t)) (h : nameOf t p = none) :
    Calls Tryd.prog 82 #[.pointer (some ⟨k, 0, none⟩), .int .i64 p] w fun r w' => r = .returned (.tuple #[.string .empty, .int .i64 56]) ∧ Below w.heap.size w w' := by
  unfold nameOf at h
  by_cases h0 : p = 0
  · rw [if_pos h0] at h; cases h
  · rw [if_neg h0] at h
    have hp0 : ((p : Int) == 0) = false := beq_eq_false_iff_ne.2 (by omega)
    have HS : Hid (∀ w : World, Calls Tryd.prog 89 #[.string t, .int .i64 p] w fun r w' => r = .returned (.tuple #[.string .empty, .int .i64 56]) ∧ Below w.heap.size w w') := by
      intro w
      rcases str_or t p with ⟨j, hj⟩ | hj
      · rw [strAt_some hj] at h; cases h
      · refine Str_no t p 56 w fun w => ?_
        by_cases hps : p < t.size
        · exact (textAt_none t p w hps hj hm).mono fun r w' ⟨h1, h2⟩ => ⟨h1, below_of_same h2⟩
        · exact (textAt_out t p w (Or.inr (by omega)) hm).mono fun r w' ⟨h1, h2⟩ => ⟨h1, below_of_same h2⟩
    clear h
    go_enter Tryd.func82, Tryd.ntmps82
    go_wp2_with (first | (go_at_call 89; refine (HS.out _).mono ?_; rintro r w1 ⟨rfl, hb1⟩))
    go_ret2
    exact ⟨rfl, hb1⟩
end Go.Proofs.YtaeigacinefhnabDoor

-- syms: the new block in which a symbol is laid.
namespace Go.Proofs.YtaeigacinefhnabDoor
open Go.ChangeShapes Go.WideShapes Go.ChangeAt Go.RowKit
set_option linter.unusedVariables false
set_option maxRecDepth 100000
def RowY (R : Nat) (w : World) : Prop := w.heap[R]? = some (.cells #[.string ⟨#[]⟩, .int .i64 0, .int .i64 0, .int .i64 0, .int .i64 0, .int .u64 0, .int .u64 0] 61 (0, 0))
theorem RowY.new (w : World) : RowY w.heap.size (w.alloc (.cells #[.string ⟨#[]⟩, .int .i64 0, .int .i64 0, .int .i64 0, .int .i64 0, .int .u64 0, .int .u64 0] 61)) := heap_alloc_new w _
theorem RowY.kept {R : Nat} {w w' : World} (h : RowY R w) (hb : Below w.heap.size w w') : RowY R w' := (hb.block R (Array.getElem?_eq_some_iff.1 h).1).trans h
theorem RowY.cells {R : Nat} {w : World} (h : RowY R w) : w.cell? ⟨R, 0, none⟩ = some (.string ⟨#[]⟩) ∧ w.cell? ⟨R, 1, none⟩ = some (.int .i64 0) ∧ w.cell? ⟨R, 2, none⟩ = some (.int .i64 0) ∧ w.cell? ⟨R, 3, none⟩ = some (.int .i64 0) ∧ w.cell? ⟨R, 4, none⟩ = some (.int .i64 0) ∧ w.cell? ⟨R, 5, none⟩ = some (.int .u64 0) ∧ w.cell? ⟨R, 6, none⟩ = some (.int .u64 0) ∧ w.frozen? ⟨R, 0, none⟩ = false ∧ w.frozen? ⟨R, 1, none⟩ = false ∧ w.frozen? ⟨R, 2, none⟩ = false ∧ w.frozen? ⟨R, 3, none⟩ = false ∧ w.frozen? ⟨R, 4, none⟩ = false ∧ w.frozen? ⟨R, 5, none⟩ = false ∧ w.frozen? ⟨R, 6, none⟩ = false :=
  ⟨cell_of_row _ _ 0 _ _ _ h, cell_of_row _ _ 1 _ _ _ h, cell_of_row _ _ 2 _ _ _ h, cell_of_row _ _ 3 _ _ _ h, cell_of_row _ _ 4 _ _ _ h, cell_of_row _ _ 5 _ _ _ h, cell_of_row _ _ 6 _ _ _ h, frozen_of_row _ _ 0 _ _ h, frozen_of_row _ _ 1 _ _ h, frozen_of_row _ _ 2 _ _ h, frozen_of_row _ _ 3 _ _ h, frozen_of_row _ _ 4 _ _ h, frozen_of_row _ _ 5 _ _ h, frozen_of_row _ _ 6 _ _ h⟩
theorem RowY.store7 {R : Nat} {w' : World} {v0 v1 v2 v3 v4 v5 v6 : Value} (h : RowY R w') : (((((((w'.setCell ⟨R, 0, none⟩ v0).setCell ⟨R, 1, none⟩ v1).setCell ⟨R, 2, none⟩ v2).setCell ⟨R, 3, none⟩ v3).setCell ⟨R, 4, none⟩ v4).setCell ⟨R, 5, none⟩ v5).setCell ⟨R, 6, none⟩ v6).heap[R]? = some (.cells #[v0, v1, v2, v3, v4, v5, v6] 61 (0, 0)) := by
  have e0 : (w'.setCell ⟨R, 0, none⟩ v0).heap[R]? = some (.cells #[v0, .int .i64 0, .int .i64 0, .int .i64 0, .int .i64 0, .int .u64 0, .int .u64 0] 61 (0, 0)) := (heap_setCell_same _ R 0 _ _ v0 h).trans rfl
  have e1 : ((w'.setCell ⟨R, 0, none⟩ v0).setCell ⟨R, 1, none⟩ v1).heap[R]? = some (.cells #[v0, v1, .int .i64 0, .int .i64 0, .int .i64 0, .int .u64 0, .int .u64 0] 61 (0, 0)) := (heap_setCell_same _ R 1 _ _ v1 e0).trans rfl
  have e2 : (((w'.setCell ⟨R, 0, none⟩ v0).setCell ⟨R, 1, none⟩ v1).setCell ⟨R, 2, none⟩ v2).heap[R]? = some (.cells #[v0, v1, v2, .int .i64 0, .int .i64 0, .int .u64 0, .int .u64 0] 61 (0, 0)) := (heap_setCell_same _ R 2 _ _ v2 e1).trans rfl
  have e3 : ((((w'.setCell ⟨R, 0, none⟩ v0).setCell ⟨R, 1, none⟩ v1).setCell ⟨R, 2, none⟩ v2).setCell ⟨R, 3, none⟩ v3).heap[R]? = some (.cells #[v0, v1, v2, v3, .int .i64 0, .int .u64 0, .int .u64 0] 61 (0, 0)) := (heap_setCell_same _ R 3 _ _ v3 e2).trans rfl
  have e4 : (((((w'.setCell ⟨R, 0, none⟩ v0).setCell ⟨R, 1, none⟩ v1).setCell ⟨R, 2, none⟩ v2).setCell ⟨R, 3, none⟩ v3).setCell ⟨R, 4, none⟩ v4).heap[R]? = some (.cells #[v0, v1, v2, v3, v4, .int .u64 0, .int .u64 0] 61 (0, 0)) := (heap_setCell_same _ R 4 _ _ v4 e3).trans rfl
  have e5 : ((((((w'.setCell ⟨R, 0, none⟩ v0).setCell ⟨R, 1, none⟩ v1).setCell ⟨R, 2, none⟩ v2).setCell ⟨R, 3, none⟩ v3).setCell ⟨R, 4, none⟩ v4).setCell ⟨R, 5, none⟩ v5).heap[R]? = some (.cells #[v0, v1, v2, v3, v4, v5, .int .u64 0] 61 (0, 0)) := (heap_setCell_same _ R 5 _ _ v5 e4).trans rfl
  have e6 : (((((((w'.setCell ⟨R, 0, none⟩ v0).setCell ⟨R, 1, none⟩ v1).setCell ⟨R, 2, none⟩ v2).setCell ⟨R, 3, none⟩ v3).setCell ⟨R, 4, none⟩ v4).setCell ⟨R, 5, none⟩ v5).setCell ⟨R, 6, none⟩ v6).heap[R]? = some (.cells #[v0, v1, v2, v3, v4, v5, v6] 61 (0, 0)) := (heap_setCell_same _ R 6 _ _ v6 e5).trans rfl
  exact e6
theorem below_store7 {w w' : World} {R : Nat} {v0 v1 v2 v3 v4 v5 v6 : Value} (h : Below w.heap.size w w') (hR : w.heap.size ≤ R) : Below w.heap.size w (((((((w'.setCell ⟨R, 0, none⟩ v0).setCell ⟨R, 1, none⟩ v1).setCell ⟨R, 2, none⟩ v2).setCell ⟨R, 3, none⟩ v3).setCell ⟨R, 4, none⟩ v4).setCell ⟨R, 5, none⟩ v5).setCell ⟨R, 6, none⟩ v6) :=
  Below.setCell (Below.setCell (Below.setCell (Below.setCell (Below.setCell (Below.setCell (Below.setCell h hR _) hR _) hR _) hR _) hR _) hR _) hR _
theorem num_lt1 (b : ByteArray) (p : Nat) (o : Int) : num b p 1 o < 256 := num_lt b p 1 o
theorem wrap_numI1 (b : ByteArray) (a o : Int) : IntKind.i64.wrap (numI b a 1 o) = numI b a 1 o := by
  rw [IntKind.wrap_i64]
  unfold numI
  have := num_lt1 b a.toNat o
  show _ = ((num b a.toNat 1 o : Nat) : Int)
  rw [show (1 : Int).toNat = 1 from rfl]
  omega
theorem wrap_numI1' (b : ByteArray) (a o : Int) : wrap64 (numI b a 1 o) = numI b a 1 o := by
  have h2 := wrap_numI1 b a o
  rw [IntKind.wrap_i64] at h2
  unfold wrap64
  exact h2
theorem wrap_small (z : Nat) (h : z < 256) : IntKind.i64.wrap (z : Int) = (z : Int) ∧ wrap64 (z : Int) = (z : Int) := by
  constructor
  · rw [IntKind.wrap_i64]; omega
  · unfold wrap64; omega
theorem div16 (z : Nat) (h : z < 256) : IntKind.i64.wrap ((z : Int) / 16) = ((z / 16 : Nat) : Int) := by rw [IntKind.wrap_i64]; omega
theorem mod16 (z : Nat) : Int.tmod (z : Int) 16 = ((z % 16 : Nat) : Int) := by rw [Int.tmod_eq_emod_of_nonneg (by omega)]; omega
/-- a table in memory: the columns of its class, its order, its entries and its names -/
def tabCells (cols : Array Value) (o : Int) (t names : ByteArray) : Array Value := cols ++ #[.int .i64 o, .string t, .string names]
end Go.Proofs.YtaeigacinefhnabDoor

-- slices.Grow at lists of symbols: laid by hand, and as a contract over a row of its own.
namespace Go.Proofs.YtaeigacinefhnabDoor
open Go.ChangeShapes Go.WideShapes Go.ChangeAt Go.RowKit Go.Shelf
set_option linter.unusedVariables false
set_option maxRecDepth 100000
def growRen : Go.Shelf.Ren := ⟨fun | 4 => 59 | n => n, fun | 22 => 27 | 25 => 61 | n => n, fun | n => n⟩
theorem growLaid : Lays8.n4 Tryd.prog growRen := {
  mixed := by kernel_rfl
  f4 := ⟨Tryd.f59.name, by kernel_rfl, Tryd.func59.trans (congrArg some (by kernel_rfl))⟩
  t0 := Tryd.underlying0
  a0 := Tryd.isAgg0
  z0 := Tryd.sizeOf0
  v0 := Tryd.zeroValue0
  t3 := Tryd.underlying3
  a3 := Tryd.isAgg3
  z3 := Tryd.sizeOf3
  v3 := Tryd.zeroValue3
  t4 := Tryd.underlying4
  a4 := Tryd.isAgg4
  z4 := Tryd.sizeOf4
  v4 := Tryd.zeroValue4
  t9 := Tryd.underlying9
  a9 := Tryd.isAgg9
  z9 := Tryd.sizeOf9
  v9 := Tryd.zeroValue9
  t20 := Tryd.underlying20
  a20 := Tryd.isAgg20
  z20 := Tryd.sizeOf20
  v20 := Tryd.zeroValue20
  t22 := Tryd.underlying27
  a22 := Tryd.isAgg27
  z22 := Tryd.sizeOf27
  v22 := Tryd.zeroValue27 }
theorem infoSym : (Tryd.prog.info? 61).map (fun i => (i.zero, i.size, i.bytes)) = some (some (.agg #[.string ⟨#[]⟩, .int .i64 0, .int .i64 0, .int .i64 0, .int .i64 0, .int .u64 0, .int .u64 0]), 7, 64) := by kernel_rfl
theorem zeros_size (z : Array Value) (k : Nat) : (Builtin.zeroCells z k).size = k * z.size := by
  first | (simp [Builtin.zeroCells]; done) | (unfold Builtin.zeroCells; simp [Nat.mul_comm]; done)
theorem grow_c (v : Value) (m n B : Nat) (xs : List Value) (w : World) (h : w.ownsRow B 61 7 v m xs) (hB : B ≤ w.heap.size) (hbig : m + n ≤ 2199023255552) :
    Calls Tryd.prog 59 #[v, .int .i64 n] w fun r w' => ∃ v', r = .returned v' ∧ w'.ownsRow B 61 7 v' m xs ∧ Below B w w' := by
  obtain ⟨i0, hi, hz0, hz1, hz2⟩ := info_parts' infoSym
  have hi' : Tryd.prog.info? (growRen.t 25) = some i0 := hi
  have new (c : Nat) (cs : List Value) (hc : m ≤ c) (hroom : c < m + n) (hcl : cs.length = c * 7) (htk : cs.take (m * 7) = xs) :
      (w.drew.alloc (.cells (cs.toArray ++ Builtin.zeroCells (Value.agg #[.string ⟨#[]⟩, .int .i64 0, .int .i64 0, .int .i64 0, .int .i64 0, .int .u64 0, .int .u64 0]).cells (m + n - c) ++ Builtin.zeroCells (Value.agg #[.string ⟨#[]⟩, .int .i64 0, .int .i64 0, .int .i64 0, .int .i64 0, .int .u64 0, .int .u64 0]).cells (grownCap w (m + n) c 61 - (m + n))) 61)).ownsRow B 61 7 (.slice (some ⟨w.heap.size, 0, none⟩) m (grownCap w (m + n) c 61)) m xs := by
    have hge : m + n ≤ grownCap w (m + n) c 61 := grownCap_ge w _ _ _
    have hle : grownCap w (m + n) c 61 ≤ maxLen := grownCap_le_maxLen w (m + n) c 61 (by unfold maxLen; omega)
    generalize grownCap w (m + n) c 61 = G at hge hle
    refine ⟨h.1, Or.inr ⟨w.heap.size, G, _, rfl, hB, heap_alloc_new w.drew _, by omega, hle, ?_, ?_⟩⟩
    · rw [Array.size_append, Array.size_append, zeros_size, zeros_size, List.size_toArray, hcl]
      show c * 7 + (m + n - c) * 7 + (G - (m + n)) * 7 = G * 7
      omega
    · rw [Array.toList_append, Array.toList_append, List.toList_toArray, List.append_assoc, List.take_append_of_le_length (by rw [hcl]; omega), htk]
  have hbel (o : Obj) : Below B w (w.drew.alloc o) := Below.alloc (Below.refl _ _).drew hB _
  rcases h.2 with ⟨rfl, rfl⟩ | ⟨g, cap, cur, rfl, hbg, hg, hmc, hcm, hcs, htk⟩
  · by_cases h0 : n = 0
    · refine (Any8.slices_Grow_room growLaid none 0 0 n w (by omega) (by omega) (by omega) (by omega)).mono fun r w' ⟨h1, h2⟩ => ?_
      subst h2
      exact ⟨_, h1, h, Below.refl _ _⟩
    · refine (Any8.slices_Grow_grow growLaid i0 _ hi' hz0 (by omega) none 0 0 n [] w (by omega) (by omega) (by rw [hz2]; omega) (by omega) (by rw [hz1]; rfl) (fun _ => rfl) (fun a ha => by cases ha)).mono fun r w' ⟨h1, h2⟩ => ?_
      subst h2
      have hx : xs = [] := List.length_eq_zero_iff.1 (by rw [h.1])
      exact ⟨_, h1, new 0 [] (by omega) (by omega) rfl (by rw [hx]; rfl), hbel _⟩
  · by_cases hr : m + n ≤ cap
    · refine (Any8.slices_Grow_room growLaid _ m cap n w hmc (by unfold maxLen at hcm; omega) (by omega) hr).mono fun r w' ⟨h1, h2⟩ => ?_
      subst h2
      exact ⟨_, h1, h, Below.refl _ _⟩
    · refine (Any8.slices_Grow_grow growLaid i0 _ hi' hz0 (by omega) _ m cap n cur.toList w hmc (by omega) (by rw [hz2]; omega) (by omega) (by rw [hz1, Array.length_toList, hcs]) (fun h => by cases h) (fun a ha j v hj => ?_)).mono fun r w' ⟨h1, h2⟩ => ?_
      · obtain rfl := (Option.some.inj ha).symm
        rw [Addr.add_mid, Nat.zero_add, cell_of_row _ _ _ _ _ _ hg, ← Array.getElem?_toList]
        exact hj
      · subst h2
        exact ⟨_, h1, new cap cur.toList hmc (by omega) (by rw [Array.length_toList, hcs]) htk, hbel _⟩
end Go.Proofs.YtaeigacinefhnabDoor

-- syms: an entry of a symbol table without a name.
namespace Go.Proofs.YtaeigacinefhnabDoor
open Go.ChangeShapes Go.WideShapes Go.ChangeAt Go.RowKit
set_option linter.unusedVariables false
set_option maxRecDepth 100000
set_option maxHeartbeats 2000000 in
theorem symbol_no_32 (s t names : ByteArray) (k : Nat) (o : Int) (w : World) (hF : w.heap[k]? = some (.cells (tabCells col32 o t names) 75 (0, 0))) (hs : s.size = 16) (hm : names.size ≤ maxLen) (ho : o = 0 ∨ o = 1) (hN : nameOf names (num s 0 4 o) = none) :
    Calls Tryd.prog 60 #[.pointer (some ⟨k, 0, none⟩), .string s] w fun r w' => r = .returned (.tuple #[.agg #[.string ⟨#[]⟩, .int .i64 0, .int .i64 0, .int .i64 0, .int .i64 0, .int .u64 0, .int .u64 0], .int .i64 56]) ∧ Below w.heap.size w w' := by
  have hk : k < w.heap.size := (Array.getElem?_eq_some_iff.1 hF).1
  have cell (i : Nat) (v : Value) (h : (tabCells col32 o t names)[i]? = some v) (w' : World) (hb : Below w.heap.size w w') : w'.cell? ⟨k, i, none⟩ = some v := by
    rw [cell_of_row _ _ _ _ _ _ ((hb.block k hk).trans hF)]; exact h
  have hb0 : Below w.heap.size w (w.alloc (.cells #[.string ⟨#[]⟩, .int .i64 0, .int .i64 0, .int .i64 0, .int .i64 0, .int .u64 0, .int .u64 0] 61)) := Below.alloc (Below.refl _ _) (Nat.le_refl _) _
  have hR0 : RowY w.heap.size (w.alloc (.cells #[.string ⟨#[]⟩, .int .i64 0, .int .i64 0, .int .i64 0, .int .i64 0, .int .u64 0, .int .u64 0] 61)) := RowY.new w
  have HN : Hid (Calls Tryd.prog 83 #[.pointer (some ⟨k, 0, none⟩), .string s, .agg #[.int .i64 0, .int .i64 4]] (w.alloc (.cells #[.string ⟨#[]⟩, .int .i64 0, .int .i64 0, .int .i64 0, .int .i64 0, .int .u64 0, .int .u64 0] 61)) fun e w' => e = .returned (.int .u64 (numI s 0 4 o)) ∧ Below w.heap.size w w' ∧ RowY w.heap.size w') := by
    refine (snumber_c s k 0 4 o (w.alloc (.cells #[.string ⟨#[]⟩, .int .i64 0, .int .i64 0, .int .i64 0, .int .i64 0, .int .u64 0, .int .u64 0] 61)) ho (by omega) (by rw [hs]; omega) (by rw [hs]; unfold maxLen; omega) (cell 13 _ rfl _ hb0)).mono fun e w' ⟨h1, h2⟩ => ?_
    exact ⟨h1, hb0.trans (h2.mono hb0.size), hR0.kept h2⟩
  have HA : Hid (∀ wx : World, Below w.heap.size w wx → RowY w.heap.size wx → Calls Tryd.prog 82 #[.pointer (some ⟨k, 0, none⟩), .int .i64 (numI s 0 4 o)] wx fun r w' => r = .returned (.tuple #[.string .empty, .int .i64 56]) ∧ Below w.heap.size w w' ∧ RowY w.heap.size w') := by
    intro wx hb hR
    refine (nameAt_no names k (num s 0 4 o) wx (num_lt4 _ _ _) hm (cell 15 _ rfl wx hb) hN).mono fun e w' ⟨h1, h2⟩ => ?_
    exact ⟨h1, hb.trans (h2.mono hb.size), hR.kept h2⟩
  have hwn : IntKind.i64.wrap (numI s 0 4 o) = numI s 0 4 o := wrap_numI s 0 4 o (by decide)
  have hxn : wrap64 (numI s 0 4 o) = numI s 0 4 o := wrap_numI64 s 0 4 o (by decide)
  have c1 : (w.alloc (.cells #[.string ⟨#[]⟩, .int .i64 0, .int .i64 0, .int .i64 0, .int .i64 0, .int .u64 0, .int .u64 0] 61)).cell? ⟨k, 1, none⟩ = some (.int .i64 0) := cell 1 _ rfl _ hb0
  have c2 : (w.alloc (.cells #[.string ⟨#[]⟩, .int .i64 0, .int .i64 0, .int .i64 0, .int .i64 0, .int .u64 0, .int .u64 0] 61)).cell? ⟨k, 2, none⟩ = some (.int .i64 4) := cell 2 _ rfl _ hb0
  clear hF hs hm ho cell hN
  go_enter Tryd.func60, Tryd.ntmps60
  go_wp2_with (first
    | (go_at_call 83; refine (HN.out).mono ?_; rintro e w0 ⟨rfl, hbz, hRz⟩)
    | (go_at_call 82; refine (HA.out _ hbz hRz).mono ?_; rintro e w1 ⟨rfl, hb1, hR1⟩)
    | (refine wpList_store_row rfl _ _ _ rfl w.heap.size #[.string ⟨#[]⟩, .int .i64 0, .int .i64 0, .int .i64 0, .int .i64 0, .int .u64 0, .int .u64 0] rfl rfl _ _ hR1 rfl (by kernel_rfl) (by kernel_rfl) ?_))
  exact bodyPost_ret (results_cell_tmp_row rfl _ _ w.heap.size _ _ _ _ rfl (setRow_heap _ _ _ _ _ _ hR1) Tryd.underlying61 rfl (by kernel_rfl)) rfl ⟨rfl, below_setRow hb1 (Nat.le_refl _) _⟩
set_option maxHeartbeats 2000000 in
theorem symbol_no_64 (s t names : ByteArray) (k : Nat) (o : Int) (w : World) (hF : w.heap[k]? = some (.cells (tabCells col64 o t names) 75 (0, 0))) (hs : s.size = 24) (hm : names.size ≤ maxLen) (ho : o = 0 ∨ o = 1) (hN : nameOf names (num s 0 4 o) = none) :
    Calls Tryd.prog 60 #[.pointer (some ⟨k, 0, none⟩), .string s] w fun r w' => r = .returned (.tuple #[.agg #[.string ⟨#[]⟩, .int .i64 0, .int .i64 0, .int .i64 0, .int .i64 0, .int .u64 0, .int .u64 0], .int .i64 56]) ∧ Below w.heap.size w w' := by
  have hk : k < w.heap.size := (Array.getElem?_eq_some_iff.1 hF).1
  have cell (i : Nat) (v : Value) (h : (tabCells col64 o t names)[i]? = some v) (w' : World) (hb : Below w.heap.size w w') : w'.cell? ⟨k, i, none⟩ = some v := by
    rw [cell_of_row _ _ _ _ _ _ ((hb.block k hk).trans hF)]; exact h
  have hb0 : Below w.heap.size w (w.alloc (.cells #[.string ⟨#[]⟩, .int .i64 0, .int .i64 0, .int .i64 0, .int .i64 0, .int .u64 0, .int .u64 0] 61)) := Below.alloc (Below.refl _ _) (Nat.le_refl _) _
  have hR0 : RowY w.heap.size (w.alloc (.cells #[.string ⟨#[]⟩, .int .i64 0, .int .i64 0, .int .i64 0, .int .i64 0, .int .u64 0, .int .u64 0] 61)) := RowY.new w
  have HN : Hid (Calls Tryd.prog 83 #[.pointer (some ⟨k, 0, none⟩), .string s, .agg #[.int .i64 0, .int .i64 4]] (w.alloc (.cells #[.string ⟨#[]⟩, .int .i64 0, .int .i64 0, .int .i64 0, .int .i64 0, .int .u64 0, .int .u64 0] 61)) fun e w' => e = .returned (.int .u64 (numI s 0 4 o)) ∧ Below w.heap.size w w' ∧ RowY w.heap.size w') := by
    refine (snumber_c s k 0 4 o (w.alloc (.cells #[.string ⟨#[]⟩, .int .i64 0, .int .i64 0, .int .i64 0, .int .i64 0, .int .u64 0, .int .u64 0] 61)) ho (by omega) (by rw [hs]; omega) (by rw [hs]; unfold maxLen; omega) (cell 13 _ rfl _ hb0)).mono fun e w' ⟨h1, h2⟩ => ?_
    exact ⟨h1, hb0.trans (h2.mono hb0.size), hR0.kept h2⟩
  have HA : Hid (∀ wx : World, Below w.heap.size w wx → RowY w.heap.size wx → Calls Tryd.prog 82 #[.pointer (some ⟨k, 0, none⟩), .int .i64 (numI s 0 4 o)] wx fun r w' => r = .returned (.tuple #[.string .empty, .int .i64 56]) ∧ Below w.heap.size w w' ∧ RowY w.heap.size w') := by
    intro wx hb hR
    refine (nameAt_no names k (num s 0 4 o) wx (num_lt4 _ _ _) hm (cell 15 _ rfl wx hb) hN).mono fun e w' ⟨h1, h2⟩ => ?_
    exact ⟨h1, hb.trans (h2.mono hb.size), hR.kept h2⟩
  have hwn : IntKind.i64.wrap (numI s 0 4 o) = numI s 0 4 o := wrap_numI s 0 4 o (by decide)
  have hxn : wrap64 (numI s 0 4 o) = numI s 0 4 o := wrap_numI64 s 0 4 o (by decide)
  have c1 : (w.alloc (.cells #[.string ⟨#[]⟩, .int .i64 0, .int .i64 0, .int .i64 0, .int .i64 0, .int .u64 0, .int .u64 0] 61)).cell? ⟨k, 1, none⟩ = some (.int .i64 0) := cell 1 _ rfl _ hb0
  have c2 : (w.alloc (.cells #[.string ⟨#[]⟩, .int .i64 0, .int .i64 0, .int .i64 0, .int .i64 0, .int .u64 0, .int .u64 0] 61)).cell? ⟨k, 2, none⟩ = some (.int .i64 4) := cell 2 _ rfl _ hb0
  clear hF hs hm ho cell hN
  go_enter Tryd.func60, Tryd.ntmps60
  go_wp2_with (first
    | (go_at_call 83; refine (HN.out).mono ?_; rintro e w0 ⟨rfl, hbz, hRz⟩)
    | (go_at_call 82; refine (HA.out _ hbz hRz).mono ?_; rintro e w1 ⟨rfl, hb1, hR1⟩)
    | (refine wpList_store_row rfl _ _ _ rfl w.heap.size #[.string ⟨#[]⟩, .int .i64 0, .int .i64 0, .int .i64 0, .int .i64 0, .int .u64 0, .int .u64 0] rfl rfl _ _ hR1 rfl (by kernel_rfl) (by kernel_rfl) ?_))
  exact bodyPost_ret (results_cell_tmp_row rfl _ _ w.heap.size _ _ _ _ rfl (setRow_heap _ _ _ _ _ _ hR1) Tryd.underlying61 rfl (by kernel_rfl)) rfl ⟨rfl, below_setRow hb1 (Nat.le_refl _) _⟩
end Go.Proofs.YtaeigacinefhnabDoor
