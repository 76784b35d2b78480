-- The program's volume in memory.
import Derived.Test.YtodjgbmfmpbkjabV1
import Derived.Test.YtodjgbmfmpbkjabE2
import Derived.Lib.FrozenHead2
import Derived.Lib.UnsafeStr
namespace Go.Proofs.Ytodjgbmfmpbkjab
open Go.RowKit
set_option linter.unusedVariables false
def bodyV (x : Bd) (ad v : Value) : Array Value := #[.int .i64 x.date, .int .i64 x.uid, .int .i64 x.gid, .int .i64 x.mode, ad, v, .int .i64 x.safe]
/-- Block b is the body x. -/
def BodyAt (w : World) (b : Nat) (x : Bd) : Prop :=
  ∃ ad v, w.heap[b]? = some (.cells (bodyV x ad v) 74 (0, 0)) ∧ (ad = .pointer none ∨ ad = .pointer (some ⟨b, 4, none⟩)) ∧ w.ownsRowF 0 5 1 v x.data.size (Lib.byteCells x.data.data.toList)
/-- The block of a body's bytes. -/
def bufOf (w : World) (b : Nat) : Option Nat := match w.heap[b]? with | some (.cells cs _ _) => (cs[5]?).bind Value.ownBlock | _ => none
theorem bufOf_eq {w : World} {b : Nat} {x : Bd} {ad v : Value} {t : TypeId} {fr : Nat × Nat} (h : w.heap[b]? = some (.cells (bodyV x ad v) t fr)) : bufOf w b = v.ownBlock := by
  simp [bufOf, h, bodyV]
theorem ownF_keep {w w' : World} {B : Nat} {e : TypeId} {size : Nat} {v : Value} {n : Nat} {xs : List Value} (h : w.ownsRowF B e size v n xs) (hk : ∀ k, v.ownBlock = some k → w'.heap[k]? = w.heap[k]?) : w'.ownsRowF B e size v n xs := by
  refine ⟨h.1, ?_⟩
  rcases h.2 with h | ⟨g, cap, cur, fz, rfl, hg, hh, r⟩
  · exact .inl h
  · exact .inr ⟨g, cap, cur, fz, rfl, hg, by rw [hk g rfl]; exact hh, r⟩
theorem ownF_typed {w : World} {B : Nat} {e : TypeId} {size : Nat} {v : Value} {n : Nat} {xs : List Value} (h : w.ownsRowF B e size v n xs) {k : Nat} (hk : v.ownBlock = some k) : ∃ cur fz, w.heap[k]? = some (.cells cur e fz) := by
  rcases h.2 with ⟨rfl, _⟩ | ⟨g, cap, cur, fz, rfl, hg, hh, r⟩
  · cases hk
  · simp only [Value.ownBlock, Option.some.injEq] at hk; subst hk; exact ⟨cur, fz, hh⟩
theorem ownF_shape {w : World} {B : Nat} {e : TypeId} {size : Nat} {v : Value} {n : Nat} {xs : List Value} (h : w.ownsRowF B e size v n xs) : ∃ ao c, v = .slice ao n c := by
  rcases h.2 with ⟨rfl, rfl⟩ | ⟨g, cap, cur, fz, rfl, _⟩
  · exact ⟨_, _, rfl⟩
  · exact ⟨_, _, rfl⟩
theorem BodyAt.keep {w w' : World} {b : Nat} {x : Bd} (h : BodyAt w b x) (hb : w'.heap[b]? = w.heap[b]?) (hk : ∀ k, bufOf w b = some k → w'.heap[k]? = w.heap[k]?) : BodyAt w' b x := by
  obtain ⟨ad, v, hh, had, hown⟩ := h
  refine ⟨ad, v, hb.trans hh, had, ownF_keep hown fun k hk' => hk k ?_⟩
  rw [bufOf_eq hh]; exact hk'
theorem bufOf_keep {w w' : World} {b : Nat} (hb : w'.heap[b]? = w.heap[b]?) : bufOf w' b = bufOf w b := by unfold bufOf; rw [hb]
theorem BodyAt.blk {w : World} {b : Nat} {x : Bd} (h : BodyAt w b x) : ∃ cs, w.heap[b]? = some (.cells cs 74 (0, 0)) := by
  obtain ⟨ad, v, hh, _⟩ := h; exact ⟨_, hh⟩
theorem BodyAt.buf {w : World} {b : Nat} {x : Bd} (h : BodyAt w b x) {k : Nat} (hk : bufOf w b = some k) : ∃ cur fz, w.heap[k]? = some (.cells cur 5 fz) := by
  obtain ⟨ad, v, hh, had, hown⟩ := h
  rw [bufOf_eq hh] at hk
  exact ownF_typed hown hk
/-- Bodies by number, each in a block of its own. -/
structure Bods (F : Nat → Prop) (w : World) (bs : List Bd) (L : List (Nat × Nat)) : Prop where
  at_ : ∀ e ∈ L, ∃ i x, e.1 = i + 1 ∧ bs[i]? = some x ∧ BodyAt w e.2 x
  own : ∀ e ∈ L, F e.2 ∧ ∀ k, bufOf w e.2 = some k → F k
  sep : ∀ e ∈ L, ∀ f ∈ L, e.2 = f.2 → e = f
  buf : ∀ e ∈ L, ∀ f ∈ L, e.2 ≠ f.2 → ∀ k, bufOf w e.2 = some k → bufOf w f.2 ≠ some k
theorem Bods.lt {F : Nat → Prop} {w : World} {bs : List Bd} {L : List (Nat × Nat)} (h : Bods F w bs L) {e : Nat × Nat} (he : e ∈ L) : e.2 < w.heap.size ∧ ∀ k, bufOf w e.2 = some k → k < w.heap.size := by
  obtain ⟨i, x, _, _, hb⟩ := h.at_ e he
  refine ⟨?_, fun k hk => ?_⟩
  · obtain ⟨cs, hh⟩ := hb.blk; exact (Array.getElem?_eq_some_iff.1 hh).1
  · obtain ⟨cs, fz, hh⟩ := hb.buf hk; exact (Array.getElem?_eq_some_iff.1 hh).1
theorem Bods.keep {F G : Nat → Prop} {w w' : World} {bs : List Bd} {L : List (Nat × Nat)} (h : Bods F w bs L) (hk : ∀ e ∈ L, ∀ k, (k = e.2 ∨ bufOf w e.2 = some k) → w'.heap[k]? = w.heap[k]?) (hG : ∀ k, F k → G k) : Bods G w' bs L := by
  have hb : ∀ e ∈ L, bufOf w' e.2 = bufOf w e.2 := fun e he => bufOf_keep (hk e he e.2 (.inl rfl))
  refine ⟨fun e he => ?_, fun e he => ?_, h.sep, fun e he f hf hne k h1 => ?_⟩
  · obtain ⟨i, x, h1, h2, h3⟩ := h.at_ e he
    exact ⟨i, x, h1, h2, h3.keep (hk e he _ (.inl rfl)) fun k hk' => hk e he k (.inr hk')⟩
  · rw [hb e he]; exact ⟨hG _ (h.own e he).1, fun k hk' => hG _ ((h.own e he).2 k hk')⟩
  · rw [hb e he] at h1; rw [hb f hf]; exact h.buf e he f hf hne k h1
theorem Bods.sub {F : Nat → Prop} {w : World} {bs : List Bd} {L L' : List (Nat × Nat)} (h : Bods F w bs L) (hs : ∀ e ∈ L', e ∈ L) : Bods F w bs L' :=
  ⟨fun e he => h.at_ e (hs e he), fun e he => h.own e (hs e he), fun e he f hf => h.sep e (hs e he) f (hs f hf), fun e he f hf => h.buf e (hs e he) f (hs f hf)⟩
/-- The four maps: none has been made (but for 'there', behind a crash), or all have. -/
def Maps4 (F : Nat → Prop) (w : World) (vd vs vt vk : Value) (now d0 : Dr) (T K : List (Nat × Nat)) : Prop :=
  (vd = .map none ∧ vs = .map none ∧ vk = .map none ∧ now = [] ∧ d0 = [] ∧ T = [] ∧ K = [] ∧ (vt = .map none ∨ ∃ bt, vt = .map (some bt) ∧ F bt ∧ MapAt (.int .i64) w bt [])) ∨
  ∃ bd bs bt bk, vd = .map (some bd) ∧ vs = .map (some bs) ∧ vt = .map (some bt) ∧ vk = .map (some bk) ∧ F bd ∧ F bs ∧ F bt ∧ F bk ∧ bd ≠ bs ∧ bd ≠ bt ∧ bd ≠ bk ∧ bs ≠ bt ∧ bs ≠ bk ∧ bt ≠ bk ∧
    MapAt .string w bd (dv now) ∧ MapAt .string w bs (dv d0) ∧ MapAt (.int .i64) w bt (bv T) ∧ MapAt (.int .i64) w bk (bv K)
def diskV (cap made : Nat) (vd vs vt vk vp : Value) : Array Value := #[.int .i64 cap, .int .i64 made, vd, vs, vt, vk, vp]
def chgV (cs : List Chg) : List Value := cs.flatMap Chg.vs
/-- The program's volume at block p, its memory in blocks of F. -/
def Raw (F : Nat → Prop) (p : Nat) (cap made : Nat) (now d0 : Dr) (cs : List Chg) (T K : List (Nat × Nat)) (bs : List Bd) (w : World) : Prop :=
  ∃ vd vs vt vk vp, w.heap[p]? = some (.cells (diskV cap made vd vs vt vk vp) 66 (0, 0)) ∧ F p ∧ Maps4 F w vd vs vt vk now d0 T K ∧
    w.ownsRow 0 77 3 vp cs.length (chgV cs) ∧ (∀ k, vp.ownBlock = some k → F k) ∧ Bods F w bs (T ++ K) ∧ (vd = .map none → cs = [])
/-- What holds of the lists. -/
structure Inv (st : St) (d0 : Dr) (cs : List Chg) (T K : List (Nat × Nat)) : Prop where
  dirs : st.dirs = chain d0 cs
  dw : DW st
  num : (T.map (·.1)).Perm (st.now.map (·.2))
  all : ∀ d ∈ st.dirs, ∀ e ∈ d, e.2 ∈ T.map (·.1) ∨ e.2 ∈ K.map (·.1)
  apart : ∀ e ∈ K, ∀ f ∈ T, e.1 ≠ f.1
def PSx (F : Nat → Prop) (p : Nat) (st : St) (w : World) : Prop :=
  ∃ d0 cs T K, Raw F p st.cap st.bodies.length st.now d0 cs T K st.bodies w ∧ Inv st d0 cs T K
theorem Maps4.keep {F G : Nat → Prop} {w w' : World} {vd vs vt vk : Value} {now d0 : Dr} {T K : List (Nat × Nat)} (h : Maps4 F w vd vs vt vk now d0 T K) (hk : ∀ v ∈ [vd, vs, vt, vk], ∀ b, v = .map (some b) → w'.heap[b]? = w.heap[b]?) (hG : ∀ k, F k → G k) : Maps4 G w' vd vs vt vk now d0 T K := by
  rcases h with ⟨h1, h2, h3, h4, h5, h6, h7, h8⟩ | ⟨bd, bs, bt, bk, rfl, rfl, rfl, rfl, f1, f2, f3, f4, n1, n2, n3, n4, n5, n6, m1, m2, m3, m4⟩
  · refine .inl ⟨h1, h2, h3, h4, h5, h6, h7, ?_⟩
    rcases h8 with h8 | ⟨bt, rfl, hF, hm⟩
    · exact .inl h8
    · exact .inr ⟨bt, rfl, hG _ hF, hm.keep (hk _ (by simp) _ rfl)⟩
  · exact .inr ⟨bd, bs, bt, bk, rfl, rfl, rfl, rfl, hG _ f1, hG _ f2, hG _ f3, hG _ f4, n1, n2, n3, n4, n5, n6, m1.keep (hk _ (by simp) _ rfl), m2.keep (hk _ (by simp) _ rfl), m3.keep (hk _ (by simp) _ rfl), m4.keep (hk _ (by simp) _ rfl)⟩
theorem Maps4.inF {F : Nat → Prop} {w : World} {vd vs vt vk : Value} {now d0 : Dr} {T K : List (Nat × Nat)} (h : Maps4 F w vd vs vt vk now d0 T K) {v : Value} (hv : v ∈ [vd, vs, vt, vk]) {b : Nat} (hb : v = .map (some b)) : F b ∧ b < w.heap.size := by
  subst hb
  rcases h with ⟨h1, h2, h3, h4, h5, h6, h7, h8⟩ | ⟨bd, bs, bt, bk, rfl, rfl, rfl, rfl, f1, f2, f3, f4, n1, n2, n3, n4, n5, n6, m1, m2, m3, m4⟩
  · subst h1 h2 h3
    simp at hv
    subst hv
    rcases h8 with h8 | ⟨bt, he, hF, hm⟩
    · cases h8
    · cases he; exact ⟨hF, hm.lt⟩
  · simp at hv
    rcases hv with rfl | rfl | rfl | rfl
    · exact ⟨f1, m1.lt⟩
    · exact ⟨f2, m2.lt⟩
    · exact ⟨f3, m3.lt⟩
    · exact ⟨f4, m4.lt⟩
theorem Maps4.ne_cells {F : Nat → Prop} {w : World} {vd vs vt vk : Value} {now d0 : Dr} {T K : List (Nat × Nat)} (h : Maps4 F w vd vs vt vk now d0 T K) {v : Value} (hv : v ∈ [vd, vs, vt, vk]) {b : Nat} (hb : v = .map (some b)) {k : Nat} {c : Array Value} {t : TypeId} {fr : Nat × Nat} (hk : w.heap[k]? = some (.cells c t fr)) : b ≠ k := by
  subst hb
  rcases h with ⟨h1, h2, h3, h4, h5, h6, h7, h8⟩ | ⟨bd, bs, bt, bk, rfl, rfl, rfl, rfl, f1, f2, f3, f4, n1, n2, n3, n4, n5, n6, m1, m2, m3, m4⟩
  · subst h1 h2 h3
    simp at hv
    subst hv
    rcases h8 with h8 | ⟨bt, he, hF, hm⟩
    · cases h8
    · cases he; exact hm.ne_cells hk
  · simp at hv
    rcases hv with rfl | rfl | rfl | rfl
    · exact m1.ne_cells hk
    · exact m2.ne_cells hk
    · exact m3.ne_cells hk
    · exact m4.ne_cells hk
theorem Raw.keep {F G : Nat → Prop} {p cap made : Nat} {now d0 : Dr} {cs : List Chg} {T K : List (Nat × Nat)} {bs : List Bd} {w w' : World} (h : Raw F p cap made now d0 cs T K bs w) (hk : ∀ k, F k → k < w.heap.size → w'.heap[k]? = w.heap[k]?) (hG : ∀ k, F k → G k) : Raw G p cap made now d0 cs T K bs w' := by
  obtain ⟨vd, vs, vt, vk, vp, hp, hF, hm, ho, hoF, hb, hn⟩ := h
  have hpl : p < w.heap.size := (Array.getElem?_eq_some_iff.1 hp).1
  refine ⟨vd, vs, vt, vk, vp, (hk p hF hpl).trans hp, hG _ hF, hm.keep (fun v hv b hb' => ?_) hG, own_keep ho fun k hk' => hk k (hoF k hk') ?_, fun k hk' => hG _ (hoF k hk'), hb.keep (fun e he k hk' => ?_) hG, hn⟩
  · obtain ⟨h1, h2⟩ := hm.inF hv hb'; exact hk b h1 h2
  · obtain ⟨cur, hh⟩ := own_typed ho hk'; exact (Array.getElem?_eq_some_iff.1 hh).1
  · rcases hk' with rfl | hk'
    · exact hk _ (hb.own e he).1 (hb.lt he).1
    · exact hk k ((hb.own e he).2 k hk') ((hb.lt he).2 k hk')
theorem psx_same {F : Nat → Prop} {p : Nat} {st : St} {w w' : World} (h : PSx F p st w) (hk : ∀ k, F k → k < w.heap.size → w'.heap[k]? = w.heap[k]?) : PSx F p st w' := by
  obtain ⟨d0, cs, T, K, hr, hi⟩ := h
  exact ⟨d0, cs, T, K, hr.keep hk fun _ h => h, hi⟩
theorem psx_mono {F G : Nat → Prop} {p : Nat} {st : St} {w : World} (h : PSx F p st w) (hG : ∀ k, F k → G k) : PSx G p st w := by
  obtain ⟨d0, cs, T, K, hr, hi⟩ := h
  exact ⟨d0, cs, T, K, hr.keep (fun _ _ _ => rfl) hG, hi⟩
end Go.Proofs.Ytodjgbmfmpbkjab
