
-- The volume as plain data: what chapter 3 says, over lists.
import Derived.Lib.Strings
import Derived.WalkKit
namespace Go.Proofs.YtjbphheojfclcaaGreat
open Go
set_option linter.unusedVariables false
structure Bd where
  date : Int
  uid : Int
  gid : Int
  mode : Int
  data : ByteArray
  safe : Nat
abbrev Dr := List (ByteArray × Nat)
structure St where
  cap : Nat
  bodies : List Bd
  dirs : List Dr
def okByte (c : UInt8) : Bool := c != 47 && c != 0
def okName (s : ByteArray) : Bool := decide (1 ≤ s.size) && decide (s.size ≤ 64) && s.data.toList.all okByte
def leads : Dr → ByteArray → Nat
  | [], _ => 0
  | e :: r, n => if e.1 = n then e.2 else leads r n
def there (d : Dr) (b : Int) : Bool := d.any fun e => decide ((e.2 : Int) = b)
def without (d : Dr) (n : ByteArray) : Dr := d.filter fun e => decide (e.1 ≠ n)
def ltB (a b : ByteArray) : Bool := Op.bytesLess a.toList b.toList
def ins (n : ByteArray) (b : Nat) : Dr → Dr
  | [] => [(n, b)]
  | e :: r => if ltB n e.1 = true then (n, b) :: e :: r else e :: ins n b r
def with_ (d : Dr) (n : ByteArray) (b : Nat) : Dr := ins n b (without d n)
theorem leads_take (d : Dr) (n : ByteArray) (k : Nat) (h : ∀ j, j < k → ∀ e, d[j]? = some e → e.1 ≠ n) : leads d n = leads (d.drop k) n := by
  induction d generalizing k with
  | nil => simp
  | cons e r ih =>
    cases k with
    | zero => rfl
    | succ k =>
      have h0 := h 0 (by omega) e rfl
      rw [leads, if_neg h0, List.drop_succ_cons]
      exact ih k fun j hj x hx => h (j + 1) (by omega) x hx
theorem leads_at (d : Dr) (n : ByteArray) (k : Nat) (x : ByteArray) (y : Nat) (h : d[k]? = some (x, y)) : leads (d.drop k) n = if x = n then y else leads (d.drop (k + 1)) n := by
  have hk : k < d.length := by
    rcases Nat.lt_or_ge k d.length with h' | h'
    · exact h'
    · rw [List.getElem?_eq_none h'] at h; cases h
  rw [List.drop_eq_getElem_cons hk]
  rw [List.getElem?_eq_getElem hk] at h
  rw [Option.some.inj h]; rfl
theorem beq_toList (a b : ByteArray) : (a.toList == b.toList) = decide (a = b) := by
  rw [ByteArray.toList_eq, ByteArray.toList_eq]
  by_cases h : a = b
  · simp [h]
  · rw [decide_eq_false h]
    refine beq_eq_false_iff_ne.2 fun e => h ?_
    cases a; cases b
    simpa using e
theorem there_at (d : Dr) (n : Int) (k : Nat) (x : ByteArray) (y : Nat) (h : d[k]? = some (x, y)) : there (d.drop k) n = (decide ((y : Int) = n) || there (d.drop (k + 1)) n) := by
  have hk : k < d.length := by
    rcases Nat.lt_or_ge k d.length with h' | h'
    · exact h'
    · rw [List.getElem?_eq_none h'] at h; cases h
  rw [List.drop_eq_getElem_cons hk]
  rw [List.getElem?_eq_getElem hk] at h
  rw [Option.some.inj h]; rfl
theorem getD_some (d : Dr) (k : Nat) (h : k < d.length) : d[k]? = some (d.getD k default) := by simp [List.getD, List.getElem?_eq_getElem h]
theorem without_take (d : Dr) (n : ByteArray) (k : Nat) (x : ByteArray) (y : Nat) (h : d[k]? = some (x, y)) : without (d.take (k + 1)) n = without (d.take k) n ++ (if x = n then [] else [(x, y)]) := by
  rw [List.take_add_one, h]
  unfold without
  rw [List.filter_append]
  by_cases hx : x = n <;> simp [hx]
theorem without_len (d : Dr) (n : ByteArray) : (without d n).length ≤ d.length := List.length_filter_le _ _
theorem ins_take (n : ByteArray) (b : Nat) (d : Dr) (k : Nat) (h : ∀ j, j < k → ∀ e, d[j]? = some e → ltB n e.1 = false) : ins n b d = d.take k ++ ins n b (d.drop k) := by
  induction d generalizing k with
  | nil => simp
  | cons e r ih =>
    cases k with
    | zero => simp
    | succ k =>
      have h0 := h 0 (by omega) e rfl
      rw [ins, if_neg (by rw [h0]; decide), List.take_succ_cons, List.drop_succ_cons, ih k (fun j hj x hx => h (j + 1) (by omega) x hx)]; rfl
theorem ins_at (n : ByteArray) (b : Nat) (d : Dr) (k : Nat) (x : ByteArray) (y : Nat) (h : d[k]? = some (x, y)) (hlt : ltB n x = true) : ins n b (d.drop k) = (n, b) :: d.drop k := by
  have hk : k < d.length := by
    rcases Nat.lt_or_ge k d.length with h' | h'
    · exact h'
    · rw [List.getElem?_eq_none h'] at h; cases h
  rw [List.drop_eq_getElem_cons hk]
  rw [List.getElem?_eq_getElem hk] at h
  rw [Option.some.inj h, ins, if_pos hlt]
theorem drop_get (d : Dr) (k : Nat) (e : ByteArray × Nat) (h : d[k]? = some e) : d.drop k = e :: d.drop (k + 1) := by
  have hk : k < d.length := by
    rcases Nat.lt_or_ge k d.length with h' | h'
    · exact h'
    · rw [List.getElem?_eq_none h'] at h; cases h
  rw [List.drop_eq_getElem_cons hk]
  rw [List.getElem?_eq_getElem hk] at h
  rw [Option.some.inj h]
structure Wf (st : St) : Prop where
  ne : st.dirs ≠ []
  few : ∀ d ∈ st.dirs, d.length ≤ 64
  led : ∀ d ∈ st.dirs, ∀ e ∈ d, 1 ≤ e.2 ∧ e.2 ≤ st.bodies.length
  bod : ∀ b ∈ st.bodies, b.data.size ≤ 1073741824 ∧ b.safe ≤ b.data.size
  cap : st.cap ≤ 1073741824
  many : st.bodies.length ≤ 2097152
  long : st.dirs.length ≤ 2097152
def St.now (st : St) : Dr := st.dirs.getLast?.getD []
def St.create (st : St) (name : ByteArray) (m0 m1 m2 m3 : Int) : (Nat × Nat) × St :=
  if okName name = false then ((0, 32), st)
  else if leads st.now name = 0 ∧ 64 ≤ st.now.length then ((0, 33), st)
  else ((st.bodies.length + 1, 0), { st with bodies := st.bodies ++ [⟨m0, m1, m2, m3, ⟨#[]⟩, 0⟩], dirs := st.dirs ++ [with_ st.now name (st.bodies.length + 1)] })
theorem now_len {st : St} (hw : Wf st) : st.now.length ≤ 64 := by
  unfold St.now
  cases hl : st.dirs.getLast? with
  | none => simp
  | some d => exact hw.few d (List.mem_of_getLast? hl)
def szOf (bs : List Bd) (b : Nat) : Nat := match bs[b - 1]? with | some x => x.data.size | none => 0
def usedIn (bs : List Bd) (d : Dr) : Nat := (d.map fun e => szOf bs e.2).sum
def St.used (st : St) : Nat := usedIn st.bodies st.now
theorem usedIn_take (bs : List Bd) (d : Dr) (k : Nat) (x : ByteArray) (y : Nat) (h : d[k]? = some (x, y)) : usedIn bs (d.take (k + 1)) = usedIn bs (d.take k) + szOf bs y := by
  unfold usedIn
  rw [List.take_add_one, h]
  simp
theorem now_mem {st : St} (hw : Wf st) : st.now ∈ st.dirs := by
  unfold St.now
  cases hl : st.dirs.getLast? with
  | none => exact absurd (List.getLast?_eq_none_iff.1 hl) hw.ne
  | some d => exact List.mem_of_getLast? hl
theorem szOf_le {st : St} (hw : Wf st) (b : Nat) : szOf st.bodies b ≤ 1073741824 := by
  unfold szOf
  split
  · rename_i x hx; exact (hw.bod x (List.mem_of_getElem? hx)).1
  · omega
theorem usedIn_le {st : St} (hw : Wf st) (d : Dr) : usedIn st.bodies d ≤ d.length * 1073741824 := by
  unfold usedIn
  induction d with
  | nil => simp
  | cons e r ih => simp only [List.map_cons, List.sum_cons, List.length_cons]; have := szOf_le hw e.2; omega
theorem led_body {st : St} (hw : Wf st) {x : ByteArray} {y : Nat} {k : Nat} (h : st.now[k]? = some (x, y)) : ∃ i b, y = i + 1 ∧ st.bodies[i]? = some b := by
  obtain ⟨h1, h2⟩ := hw.led _ (now_mem hw) _ (List.mem_of_getElem? h)
  refine ⟨y - 1, st.bodies[y - 1]'(by omega), by omega, List.getElem?_eq_getElem _⟩
/-- The body of a number, if it is there. -/
def St.at_ (st : St) (n : Int) : Option Bd := if there st.now n = true then st.bodies[n.toNat - 1]? else none
theorem there_body {st : St} (hw : Wf st) {n : Int} (h : there st.now n = true) : ∃ (i : Nat) (b : Bd), n = (i : Int) + 1 ∧ st.bodies[i]? = some b := by
  unfold there at h
  rw [List.any_eq_true] at h
  obtain ⟨e, he, hn⟩ := h
  obtain ⟨h1, h2⟩ := hw.led _ (now_mem hw) e he
  have hn' : (e.2 : Int) = n := by simpa using hn
  exact ⟨e.2 - 1, st.bodies[e.2 - 1]'(by omega), by omega, List.getElem?_eq_getElem _⟩
theorem at_some {st : St} {i : Nat} {b : Bd} (ht : there st.now ((i : Int) + 1) = true) (hb : st.bodies[i]? = some b) : st.at_ ((i : Int) + 1) = some b := by
  unfold St.at_
  rw [if_pos ht, show ((i : Int) + 1).toNat - 1 = i by omega, hb]
theorem at_none {st : St} {n : Int} (ht : there st.now n = false) : st.at_ n = none := by
  unfold St.at_; rw [ht]; rfl
def St.read (st : St) (n : Int) : ByteArray × Nat := match st.at_ n with | some b => (b.data, 0) | none => (⟨#[]⟩, 34)
def St.loose (st : St) (n : Int) : Nat × Nat := match st.at_ n with | some b => (b.data.size - b.safe, 0) | none => (0, 34)
def St.names (st : St) : List ByteArray := st.now.map (·.1)
def noBd : Bd := ⟨0, 0, 0, 0, ⟨#[]⟩, 0⟩
def St.find (st : St) (name : ByteArray) : (ByteArray × Bd) × (Nat × Nat) :=
  if okName name = false then ((⟨#[]⟩, noBd), (0, 32))
  else if leads st.now name = 0 then ((⟨#[]⟩, noBd), (0, 30))
  else ((name, (st.bodies[leads st.now name - 1]?).getD noBd), (leads st.now name, 0))
theorem leads_mem (d : Dr) (n : ByteArray) (h : leads d n ≠ 0) : (n, leads d n) ∈ d := by
  induction d with
  | nil => exact absurd rfl h
  | cons e r ih =>
    unfold leads at h ⊢
    by_cases he : e.1 = n
    · rw [if_pos he]; subst he; simp
    · rw [if_neg he] at h ⊢; exact List.mem_cons_of_mem _ (ih h)
theorem leads_body {st : St} (hw : Wf st) {n : ByteArray} (h : leads st.now n ≠ 0) : ∃ (i : Nat) (b : Bd), leads st.now n = i + 1 ∧ st.bodies[i]? = some b := by
  obtain ⟨h1, h2⟩ := hw.led _ (now_mem hw) _ (leads_mem _ _ h)
  simp only at h1 h2
  exact ⟨leads st.now n - 1, st.bodies[leads st.now n - 1]'(by omega), by omega, List.getElem?_eq_getElem _⟩
def St.syncDir (st : St) : St := { st with dirs := [st.now] }
def St.put (st : St) (n : Int) (b : Bd) : St := { st with bodies := st.bodies.set (n.toNat - 1) b }
def St.sync (st : St) (n : Int) : Nat × St := match st.at_ n with | some b => (0, st.put n { b with safe := b.data.size }) | none => (34, st)
theorem empty_no {s : ByteArray} (h : s ≠ ⟨#[]⟩) : ¬ s.toList = [] := fun e => h (by
  have := beq_toList s ⟨#[]⟩
  rw [e] at this
  by_cases h' : s = ⟨#[]⟩
  · exact h'
  · rw [decide_eq_false h', ByteArray.toList_eq] at this; simp at this)
def St.append (st : St) (n : Int) (data : ByteArray) : Nat × St :=
  match st.at_ n with
  | none => (34, st)
  | some b => if data ≠ ⟨#[]⟩ ∧ st.cap < st.used + data.size then (31, st) else (0, st.put n { b with data := b.data ++ data })
def St.remove (st : St) (name : ByteArray) : Nat × St :=
  if okName name = false then (32, st)
  else if leads st.now name = 0 then (30, st)
  else (0, { st with dirs := st.dirs ++ [without st.now name] })
def St.rename (st : St) (old to : ByteArray) : Nat × St :=
  if okName old = false ∨ okName to = false then (32, st)
  else if leads st.now old = 0 then (30, st)
  else if old = to then (0, st)
  else (0, { st with dirs := st.dirs ++ [with_ (without st.now old) to (leads st.now old)] })
def St.new (cap : Nat) : St := ⟨cap, [], [[]]⟩
def within (n lo hi : Int) : Int := if n < lo then lo else if hi < n then hi else n
def cutOf (cuts : List Int) (j : Nat) (loose : Nat) : Nat := if cuts = [] then 0 else (within (cuts.getD (j % cuts.length) 0) 0 loose).toNat
theorem within_nat (n : Int) (k : Nat) : ∃ m : Nat, within n 0 k = m ∧ m ≤ k := by
  unfold within
  split
  · exact ⟨0, rfl, Nat.zero_le _⟩
  · split
    · exact ⟨k, rfl, Nat.le_refl _⟩
    · exact ⟨n.toNat, by omega, by omega⟩
theorem cutOf_le (cuts : List Int) (j loose : Nat) : cutOf cuts j loose ≤ loose := by
  unfold cutOf
  split
  · exact Nat.zero_le _
  · obtain ⟨m, h1, h2⟩ := within_nat (cuts.getD (j % cuts.length) 0) loose
    rw [h1]; simpa using h2
def cutB (cuts : List Int) (j : Nat) (x : Bd) : Bd :=
  { x with data := x.data.extract 0 (x.safe + cutOf cuts j (x.data.size - x.safe)), safe := (x.data.extract 0 (x.safe + cutOf cuts j (x.data.size - x.safe))).size }
def cutTo (cuts : List Int) (d : Dr) (bs : List Bd) : Nat → List Bd
  | 0 => bs
  | k + 1 => match d[k]? with
    | some e => match (cutTo cuts d bs k)[e.2 - 1]? with
      | some x => (cutTo cuts d bs k).set (e.2 - 1) (cutB cuts k x)
      | none => cutTo cuts d bs k
    | none => cutTo cuts d bs k
theorem cutTo_len (cuts : List Int) (d : Dr) (bs : List Bd) (k : Nat) : (cutTo cuts d bs k).length = bs.length := by
  induction k with
  | zero => rfl
  | succ k ih =>
    simp only [cutTo]
    split
    · split
      · rw [List.length_set, ih]
      · exact ih
    · exact ih
def St.cutDir (st : St) (n : Int) : Dr := (st.dirs[(within n 0 ((st.dirs.length - 1 : Nat) : Int)).toNat]?).getD []
def St.crash (st : St) (n : Int) (cuts : List Int) : St := { st with bodies := cutTo cuts (st.cutDir n) st.bodies (st.cutDir n).length, dirs := [st.cutDir n] }
theorem cutTo_bod (cuts : List Int) (d : Dr) (bs : List Bd) (k : Nat) (h : ∀ b ∈ bs, b.data.size ≤ 1073741824 ∧ b.safe ≤ b.data.size) : ∀ b ∈ cutTo cuts d bs k, b.data.size ≤ 1073741824 ∧ b.safe ≤ b.data.size := by
  induction k with
  | zero => exact h
  | succ k ih =>
    simp only [cutTo]
    split
    · split
      · rename_i x hx
        intro b hb
        rcases List.mem_or_eq_of_mem_set hb with hb | rfl
        · exact ih b hb
        · have := ih x (List.mem_of_getElem? hx)
          refine ⟨?_, Nat.le_refl _⟩
          simp only [cutB, ByteArray.size_extract]; omega
      · exact ih
    · exact ih
theorem cutDir_get {st : St} (hw : Wf st) (n : Int) : ∃ m : Nat, within n 0 ((st.dirs.length - 1 : Nat) : Int) = m ∧ m < st.dirs.length ∧ st.dirs[m]? = some (st.cutDir n) := by
  obtain ⟨m, h1, h2⟩ := within_nat n (st.dirs.length - 1)
  have hp : 0 < st.dirs.length := List.length_pos_iff.2 hw.ne
  refine ⟨m, h1, by omega, ?_⟩
  unfold St.cutDir
  rw [h1, Int.toNat_natCast, List.getElem?_eq_getElem (by omega)]; rfl
structure Opx where
  kind : Int
  on : Int
  n : Int
  a : ByteArray
  b : ByteArray
  m0 : Int
  m1 : Int
  m2 : Int
  m3 : Int
  cv : Value
  cuts : List Int
def Opx.v (o : Opx) : Value := .agg #[.int .i64 o.kind, .int .i64 o.on, .int .i64 o.n, .string o.a, .string o.b, .int .i64 o.m0, .int .i64 o.m1, .int .i64 o.m2, .int .i64 o.m3, o.cv]
def St.step (st : St) (o : Opx) : St :=
  if o.kind = 1 then (st.create o.a o.m0 o.m1 o.m2 o.m3).2
  else if o.kind = 2 then (st.append o.n o.a).2
  else if o.kind = 3 then (st.sync o.n).2
  else if o.kind = 4 then st.syncDir
  else if o.kind = 5 then (st.rename o.a o.b).2
  else if o.kind = 6 then (st.remove o.a).2
  else if o.kind = 7 then st.crash o.n o.cuts
  else st
theorem ins_len (n : ByteArray) (b : Nat) (d : Dr) : (ins n b d).length = d.length + 1 := by
  induction d with
  | nil => rfl
  | cons e r ih => unfold ins; split <;> simp [ih]
theorem ins_mem (n : ByteArray) (b : Nat) (d : Dr) (e : ByteArray × Nat) (h : e ∈ ins n b d) : e = (n, b) ∨ e ∈ d := by
  induction d with
  | nil => simp [ins] at h; exact .inl h
  | cons x r ih =>
    unfold ins at h
    split at h
    · simp at h ⊢; exact h
    · simp at h ⊢
      rcases h with h | h
      · exact .inr (.inl h)
      · rcases ih h with h | h
        · exact .inl h
        · exact .inr (.inr h)
theorem without_lt (d : Dr) (n : ByteArray) (h : leads d n ≠ 0) : (without d n).length < d.length := by
  have hm := leads_mem d n h
  unfold without
  have := List.length_filter_lt_length_iff_exists (p := fun e : ByteArray × Nat => decide (e.1 ≠ n)) (l := d)
  exact this.2 ⟨_, hm, by simp⟩
theorem without_mem (d : Dr) (n : ByteArray) (e : ByteArray × Nat) (h : e ∈ without d n) : e ∈ d := (List.mem_filter.1 h).1
theorem sz_used (bs : List Bd) (d : Dr) (e : ByteArray × Nat) (h : e ∈ d) : szOf bs e.2 ≤ usedIn bs d := by
  unfold usedIn
  induction d with
  | nil => simp at h
  | cons x r ih =>
    simp only [List.map_cons, List.sum_cons]
    rcases List.mem_cons.1 h with rfl | h
    · omega
    · have := ih h; omega
theorem Wf.dir {st : St} (hw : Wf st) (d : Dr) (h1 : d.length ≤ 64) (h2 : ∀ e ∈ d, 1 ≤ e.2 ∧ e.2 ≤ st.bodies.length) (hl : st.dirs.length < 2097152) : Wf { st with dirs := st.dirs ++ [d] } where
  ne := by simp
  few := fun x hx => by
    rcases List.mem_append.1 hx with hx | hx
    · exact hw.few x hx
    · simp at hx; subst hx; exact h1
  led := fun x hx => by
    rcases List.mem_append.1 hx with hx | hx
    · exact hw.led x hx
    · simp at hx; subst hx; exact h2
  bod := hw.bod
  cap := hw.cap
  many := hw.many
  long := by simp; omega
theorem Wf.bods {st : St} (hw : Wf st) (bs : List Bd) (hlen : st.bodies.length ≤ bs.length) (hm : bs.length ≤ 2097152) (hb : ∀ b ∈ bs, b.data.size ≤ 1073741824 ∧ b.safe ≤ b.data.size) : Wf { st with bodies := bs } where
  ne := hw.ne
  few := hw.few
  led := fun x hx e he => by have := hw.led x hx e he; exact ⟨this.1, Nat.le_trans this.2 hlen⟩
  bod := hb
  cap := hw.cap
  many := hm
  long := hw.long
theorem Wf.one {st : St} (hw : Wf st) (d : Dr) (hd : d ∈ st.dirs) : Wf { st with dirs := [d] } where
  ne := by simp
  few := fun x hx => by simp at hx; subst hx; exact hw.few _ hd
  led := fun x hx => by simp at hx; subst hx; exact hw.led _ hd
  bod := hw.bod
  cap := hw.cap
  many := hw.many
  long := by simp
theorem Wf.put {st : St} (hw : Wf st) (n : Int) (b : Bd) (hb : b.data.size ≤ 1073741824 ∧ b.safe ≤ b.data.size) : Wf (st.put n b) := by
  refine hw.bods _ (by simp) (by simpa using hw.many) fun x hx => ?_
  rcases List.mem_or_eq_of_mem_set hx with hx | rfl
  · exact hw.bod x hx
  · exact hb
/-- What a step leaves: all is well, and at most one body and one change more. -/
structure Fine (st st' : St) : Prop where
  wf : Wf st'
  cap : st'.cap = st.cap
  bodies : st'.bodies.length ≤ st.bodies.length + 1
  dirs : st'.dirs.length ≤ st.dirs.length + 1
theorem Fine.refl {st : St} (hw : Wf st) : Fine st st := ⟨hw, rfl, by omega, by omega⟩
theorem now_append (st : St) (d : Dr) : ({ st with dirs := st.dirs ++ [d] } : St).now = d := by simp [St.now]
theorem create_fine {st : St} (hw : Wf st) (name : ByteArray) (m0 m1 m2 m3 : Int) (h1 : st.bodies.length < 2097152) (h2 : st.dirs.length < 2097152) : Fine st (st.create name m0 m1 m2 m3).2 := by
  unfold St.create
  split
  · exact Fine.refl hw
  · split
    · exact Fine.refl hw
    · rename_i hok hfull
      have hb : Wf { st with bodies := st.bodies ++ [⟨m0, m1, m2, m3, ⟨#[]⟩, 0⟩] } := hw.bods _ (by simp) (by simp; omega) fun b hb => by
        rcases List.mem_append.1 hb with hb | hb
        · exact hw.bod b hb
        · simp at hb; subst hb; exact ⟨Nat.zero_le _, Nat.le_refl _⟩
      refine ⟨hb.dir (with_ st.now name (st.bodies.length + 1)) ?_ ?_ h2, rfl, by simp, by simp⟩
      · unfold with_; rw [ins_len]
        have := now_len hw
        by_cases hl : leads st.now name = 0
        · have := without_len st.now name; omega
        · have := without_lt st.now name hl; omega
      · intro e he
        rcases ins_mem _ _ _ _ he with rfl | he
        · simp
        · have := hw.led _ (now_mem hw) e (without_mem _ _ _ he)
          simp; omega
theorem at_mem {st : St} {n : Int} {b : Bd} (hw : Wf st) (h : st.at_ n = some b) : b ∈ st.bodies ∧ b.data.size ≤ st.used := by
  unfold St.at_ at h
  split at h
  · rename_i ht
    refine ⟨List.mem_of_getElem? h, ?_⟩
    unfold there at ht
    rw [List.any_eq_true] at ht
    obtain ⟨e, he, hn⟩ := ht
    have hn' : (e.2 : Int) = n := by simpa using hn
    have := sz_used st.bodies st.now e he
    unfold szOf at this
    rw [show e.2 - 1 = n.toNat - 1 by omega, h] at this
    exact this
  · cases h
theorem append_fine {st : St} (hw : Wf st) (n : Int) (data : ByteArray) : Fine st (st.append n data).2 := by
  unfold St.append
  split
  · exact Fine.refl hw
  · rename_i b hb
    split
    · exact Fine.refl hw
    · rename_i hf
      obtain ⟨hm, hu⟩ := at_mem hw hb
      have hbb := hw.bod b hm
      have hcap := hw.cap
      have hsz : (b.data ++ data).size = b.data.size + data.size := ByteArray.size_append
      refine ⟨hw.put n _ ⟨?_, ?_⟩, rfl, by simp [St.put], by simp [St.put]⟩
      · show (b.data ++ data).size ≤ _
        rw [hsz]
        by_cases h0 : data = ⟨#[]⟩
        · subst h0; exact hbb.1
        · have : ¬ st.cap < st.used + data.size := fun h => hf ⟨h0, h⟩
          omega
      · show b.safe ≤ (b.data ++ data).size
        rw [hsz]; omega
theorem sync_fine {st : St} (hw : Wf st) (n : Int) : Fine st (st.sync n).2 := by
  unfold St.sync
  split
  · rename_i b hb
    have hbb := hw.bod b (at_mem hw hb).1
    exact ⟨hw.put n _ ⟨hbb.1, Nat.le_refl _⟩, rfl, by simp [St.put], by simp [St.put]⟩
  · exact Fine.refl hw
theorem syncDir_fine {st : St} (hw : Wf st) : Fine st st.syncDir := ⟨hw.one _ (now_mem hw), rfl, by simp [St.syncDir], by simp [St.syncDir]⟩
theorem rename_fine {st : St} (hw : Wf st) (old to : ByteArray) (h2 : st.dirs.length < 2097152) : Fine st (st.rename old to).2 := by
  unfold St.rename
  split
  · exact Fine.refl hw
  · split
    · exact Fine.refl hw
    · split
      · exact Fine.refl hw
      · rename_i hz hne
        refine ⟨hw.dir _ ?_ ?_ h2, rfl, by simp, by simp⟩
        · unfold with_; rw [ins_len]
          have h1 := now_len hw
          have h3 := without_lt st.now old hz
          have h4 := without_len (without st.now old) to
          omega
        · intro e he
          rcases ins_mem _ _ _ _ he with rfl | he
          · have := hw.led _ (now_mem hw) _ (leads_mem _ _ hz); exact this
          · exact hw.led _ (now_mem hw) e (without_mem _ _ _ (without_mem _ _ _ he))
theorem remove_fine {st : St} (hw : Wf st) (name : ByteArray) (h2 : st.dirs.length < 2097152) : Fine st (st.remove name).2 := by
  unfold St.remove
  split
  · exact Fine.refl hw
  · split
    · exact Fine.refl hw
    · refine ⟨hw.dir _ ?_ ?_ h2, rfl, by simp, by simp⟩
      · have := without_len st.now name; have := now_len hw; omega
      · intro e he
        exact hw.led _ (now_mem hw) e (without_mem _ _ _ he)
theorem crash_fine {st : St} (hw : Wf st) (n : Int) (cuts : List Int) : Fine st (st.crash n cuts) := by
  obtain ⟨m, _, _, hm⟩ := cutDir_get hw n
  have h1 := hw.one _ (List.mem_of_getElem? hm)
  refine ⟨h1.bods _ (by rw [cutTo_len]; exact Nat.le_refl _) (by rw [cutTo_len]; exact hw.many) (cutTo_bod cuts _ _ _ hw.bod), rfl, ?_, by simp [St.crash]⟩
  show (cutTo cuts _ st.bodies _).length ≤ _
  rw [cutTo_len]; omega
theorem step_fine {st : St} (hw : Wf st) (o : Opx) (h1 : st.bodies.length < 2097152) (h2 : st.dirs.length < 2097152) : Fine st (st.step o) := by
  unfold St.step
  split
  · exact create_fine hw _ _ _ _ _ h1 h2
  split
  · exact append_fine hw _ _
  split
  · exact sync_fine hw _
  split
  · exact syncDir_fine hw
  split
  · exact rename_fine hw _ _ h2
  split
  · exact remove_fine hw _ h2
  split
  · exact crash_fine hw _ _
  · exact Fine.refl hw
theorem new_wf (c : Nat) (h : c ≤ 1073741824) : Wf (St.new c) where
  ne := by simp [St.new]
  few := by simp [St.new]
  led := by simp [St.new]
  bod := by simp [St.new]
  cap := h
  many := by simp [St.new]
  long := by simp [St.new]
theorem names_len {st : St} (hw : Wf st) : st.names.length ≤ 64 := by unfold St.names; rw [List.length_map]; exact now_len hw
def St.play (st : St) (l : List Opx) : St := l.foldl St.step st
theorem play_take (st : St) (l : List Opx) (k : Nat) (o : Opx) (h : l[k]? = some o) : st.play (l.take (k + 1)) = (st.play (l.take k)).step o := by
  unfold St.play
  rw [List.take_add_one, h]
  simp
theorem step_other (st : St) (o : Opx) (h : ¬ (1 ≤ o.kind ∧ o.kind ≤ 7)) : st.step o = st := by
  unfold St.step
  rw [if_neg (by omega), if_neg (by omega), if_neg (by omega), if_neg (by omega), if_neg (by omega), if_neg (by omega), if_neg (by omega)]
end Go.Proofs.YtjbphheojfclcaaGreat
