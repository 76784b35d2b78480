
-- Plain: sections, symbols, and what a file's symbol tables tell.
import Derived.Test.YtkmehjikllilaaaDoorS0
import Derived.Test.YtkmehjikllilaaaDoorJ0
namespace Go.Proofs.YtkmehjikllilaaaDoor
set_option linter.unusedVariables false
set_option maxRecDepth 100000
/-- a symbol -/
structure Sym where
  name : ByteArray
  bind : Nat
  typ : Nat
  oth : Nat
  sect : Nat
  value : Nat
  size : Nat
/-- the bytes of an entry, by class -/
def symLen (c : Nat) : Nat := if c = 32 then 16 else 24
/-- a section's bytes -/
def cont (b : ByteArray) (s : Sec) : Option ByteArray :=
  if s.ty = 8 then some .empty else if s.off ≤ b.size ∧ s.sz ≤ b.size - s.off then some (b.extract s.off (s.off + s.sz)) else none
/-- the string at a place: up to the first byte 0 -/
def strAt (t : ByteArray) (off : Nat) : Option ByteArray :=
  ((List.range t.size).find? fun j => decide (off ≤ j) && decide (byt t j = 0)).map fun j => t.extract off j
theorem strAt_some {t : ByteArray} {off j : Nat} (h : StrAt t off j) : strAt t off = some (t.extract off j) := by
  obtain ⟨h1, h2, h3, h4⟩ := h
  have hf : ((List.range t.size).find? fun j => decide (off ≤ j) && decide (byt t j = 0)) = some j := by
    rw [List.find?_range_eq_some]
    refine ⟨by simp [h1, h3], List.mem_range.2 h2, fun i hi => ?_⟩
    by_cases ho : off ≤ i
    · simp [h4 i ho hi]
    · simp [ho]
  unfold strAt
  rw [hf]
  rfl
theorem strAt_none {t : ByteArray} {off : Nat} (h : NoStr t off) : strAt t off = none := by
  have hf : ((List.range t.size).find? fun j => decide (off ≤ j) && decide (byt t j = 0)) = none := by
    rw [List.find?_range_eq_none]
    intro i hi
    by_cases ho : off ≤ i
    · simp [h i ho hi]
    · simp [ho]
  unfold strAt
  rw [hf]
  rfl
/-- the name of an entry -/
def nameOf (t : ByteArray) (p : Nat) : Option ByteArray := if p = 0 then some .empty else strAt t p
/-- the symbol that stands at p in t, but for its name -/
def symAt (c : Nat) (o : Int) (t : ByteArray) (p : Nat) (name : ByteArray) : Sym :=
  if c = 32 then ⟨name, num t (p + 12) 1 o / 16, num t (p + 12) 1 o % 16, num t (p + 13) 1 o, num t (p + 14) 2 o, num t (p + 4) 4 o, num t (p + 8) 4 o⟩
  else ⟨name, num t (p + 4) 1 o / 16, num t (p + 4) 1 o % 16, num t (p + 5) 1 o, num t (p + 6) 2 o, num t (p + 8) 8 o, num t (p + 16) 8 o⟩
/-- the first k symbols of a table; none: one has no name -/
def symsOf (c : Nat) (o : Int) (t names : ByteArray) : Nat → Option (List Sym)
  | 0 => some []
  | k + 1 => (symsOf c o t names k).bind fun l => (nameOf names (num t (k * symLen c) 4 o)).map fun n => l ++ [symAt c o t (k * symLen c) n]
theorem symsOf_length (c : Nat) (o : Int) (t names : ByteArray) : ∀ (k : Nat) (l : List Sym), symsOf c o t names k = some l → l.length = k
  | 0, l, h => by simp [symsOf] at h; subst h; rfl
  | k + 1, l, h => by
    simp only [symsOf, Option.bind_eq_some_iff, Option.map_eq_some_iff] at h
    obtain ⟨l', h1, n, _, rfl⟩ := h
    rw [List.length_append, symsOf_length c o t names k l' h1]; rfl
theorem symsOf_none {c : Nat} {o : Int} {t names : ByteArray} {k : Nat} (h : symsOf c o t names k = none) : ∀ m, symsOf c o t names (k + m) = none
  | 0 => h
  | m + 1 => by rw [← Nat.add_assoc, symsOf, symsOf_none h m]; rfl
/-- what opening a symbol table finds: its bytes and its names; or the refusal -/
def openOf (b : ByteArray) (c n : Nat) (s : Nat → Sec) (x : Sec) : Except Int (ByteArray × ByteArray) :=
  if x.en = symLen c ∧ x.sz % symLen c = 0 then
    match cont b x with
    | none => .error 54
    | some t => if x.li < n ∧ (s x.li).ty = 3 then
        match cont b (s x.li) with
        | none => .error 54
        | some names => .ok (t, names)
      else .error 60
  else .error 55
/-- the symbols of one table -/
def oneOf (b : ByteArray) (c : Nat) (o : Int) (n : Nat) (s : Nat → Sec) (x : Sec) : Except Int (List Sym) :=
  match openOf b c n s x with
  | .error e => .error e
  | .ok (t, names) => match symsOf c o t names (t.size / symLen c) with
    | none => .error 56
    | some l => .ok l
/-- the symbols of the tables among the first k sections -/
def tabOf (b : ByteArray) (c : Nat) (o : Int) (n : Nat) (s : Nat → Sec) : Nat → Except Int (List Sym)
  | 0 => .ok []
  | k + 1 => match tabOf b c o n s k with
    | .error e => .error e
    | .ok l => if (s k).ty = 2 then (match oneOf b c o n s (s k) with
        | .error e => .error e
        | .ok m => .ok (l ++ m)) else .ok l
theorem tabOf_err {b : ByteArray} {c : Nat} {o : Int} {n : Nat} {s : Nat → Sec} {k : Nat} {e : Int} (h : tabOf b c o n s k = .error e) : ∀ m, tabOf b c o n s (k + m) = .error e
  | 0 => h
  | m + 1 => by rw [← Nat.add_assoc, tabOf, tabOf_err h m]
theorem cont_size {b : ByteArray} {s : Sec} {t : ByteArray} (h : cont b s = some t) (hb : b.size ≤ 1048576) : t.size ≤ 1048576 := by
  unfold cont at h
  split at h
  · cases h; decide
  · split at h
    · cases h; rw [ByteArray.size_extract]; omega
    · cases h
theorem symLen_pos (c : Nat) : 16 ≤ symLen c ∧ symLen c ≤ 24 := by unfold symLen; split <;> omega
theorem open_size {b : ByteArray} {c n : Nat} {s : Nat → Sec} {x : Sec} {t names : ByteArray} (h : openOf b c n s x = .ok (t, names)) (hx : x.ty = 2) (hb : b.size ≤ 1048576) :
    t.size ≤ 1048576 ∧ names.size ≤ 1048576 ∧ t.size % symLen c = 0 := by
  unfold openOf at h
  split at h
  · rename_i h1
    split at h
    · cases h
    · rename_i t' ht
      split at h
      · split at h
        · cases h
        · rename_i n' hn
          cases h
          refine ⟨cont_size ht hb, cont_size hn hb, ?_⟩
          unfold cont at ht
          rw [if_neg (by omega)] at ht
          split at ht
          · rename_i h2
            cases ht
            rw [ByteArray.size_extract, show min (x.off + x.sz) b.size - x.off = x.sz by omega]
            exact h1.2
          · cases ht
      · cases h
  · cases h
theorem one_length {b : ByteArray} {c : Nat} {o : Int} {n : Nat} {s : Nat → Sec} {x : Sec} {l : List Sym} (h : oneOf b c o n s x = .ok l) (hx : x.ty = 2) (hb : b.size ≤ 1048576) : l.length ≤ 65536 := by
  unfold oneOf at h
  split at h
  · cases h
  · rename_i t names ho
    split at h
    · cases h
    · rename_i l' hl
      cases h
      rw [symsOf_length _ _ _ _ _ _ hl]
      have h1 := (open_size ho hx hb).1
      have h2 := symLen_pos c
      calc t.size / symLen c ≤ t.size / 16 := Nat.div_le_div_left h2.1 (by omega)
        _ ≤ 65536 := by omega
theorem tab_length {b : ByteArray} {c : Nat} {o : Int} {n : Nat} {s : Nat → Sec} (hb : b.size ≤ 1048576) : ∀ (k : Nat) (l : List Sym), tabOf b c o n s k = .ok l → l.length ≤ k * 65536
  | 0, l, h => by cases h; simp
  | k + 1, l, h => by
    simp only [tabOf] at h
    split at h
    · cases h
    · rename_i l' hl
      have ih := tab_length hb k l' hl
      split at h
      · rename_i h2
        split at h
        · cases h
        · rename_i m hm
          cases h
          have := one_length hm h2 hb
          rw [List.length_append]; omega
      · obtain rfl := Except.ok.inj h
        exact Nat.le_trans ih (Nat.mul_le_mul_right _ (Nat.le_succ k))
/-- the cells of a symbol -/
def symV (x : Sym) : List Value := [.string x.name, .int .i64 x.bind, .int .i64 x.typ, .int .i64 x.oth, .int .i64 x.sect, .int .u64 x.value, .int .u64 x.size]
def symsV (l : List Sym) : List Value := l.flatMap symV
theorem symsV_cons (x : Sym) (l : List Sym) : symsV (x :: l) = symV x ++ symsV l := rfl
theorem symsV_length : ∀ l : List Sym, (symsV l).length = l.length * 7
  | [] => rfl
  | x :: l => by rw [symsV_cons, List.length_append, symsV_length l, List.length_cons]; show 7 + l.length * 7 = _; omega
theorem symsV_append (l m : List Sym) : symsV (l ++ m) = symsV l ++ symsV m := by unfold symsV; rw [List.flatMap_append]
end Go.Proofs.YtkmehjikllilaaaDoor
