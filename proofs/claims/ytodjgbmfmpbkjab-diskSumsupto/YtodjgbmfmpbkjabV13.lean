-- The program's volume as a whole: what its calls meet.
import Derived.Test.YtodjgbmfmpbkjabV11
namespace Go.Proofs.Ytodjgbmfmpbkjab
open Go.RowKit
set_option linter.unusedVariables false
section
variable {F : Nat → Prop} {p cap made : Nat} {now d0 : Dr} {cs : List Chg} {T K : List (Nat × Nat)} {bs : List Bd} {w : World}
theorem Maps4.v {F : Nat → Prop} {w : World} {vd vs vt vk : Value} {now d0 : Dr} {T K : List (Nat × Nat)} (h : Maps4 F w vd vs vt vk now d0 T K) : MapV .string w vd (dv now) ∧ MapV .string w vs (dv d0) ∧ MapV (.int .i64) w vt (bv T) ∧ MapV (.int .i64) w vk (bv K) := by
  rcases h with ⟨rfl, rfl, rfl, rfl, rfl, rfl, rfl, h8⟩ | ⟨bd, bf, bt, bk, rfl, rfl, rfl, rfl, f1, f2, f3, f4, n1, n2, n3, n4, n5, n6, m1, m2, m3, m4⟩
  · refine ⟨.inl ⟨rfl, rfl⟩, .inl ⟨rfl, rfl⟩, ?_, .inl ⟨rfl, rfl⟩⟩
    rcases h8 with rfl | ⟨bt, rfl, _, hm⟩
    · exact .inl ⟨rfl, rfl⟩
    · exact .inr ⟨bt, rfl, hm⟩
  · exact ⟨.inr ⟨_, rfl, m1⟩, .inr ⟨_, rfl, m2⟩, .inr ⟨_, rfl, m3⟩, .inr ⟨_, rfl, m4⟩⟩
theorem MapV.sv_look (c : Bool) {v : Value} {d : Dr} (h : MapV .string w v (dv d)) (hp : ∀ e ∈ d, 1 ≤ e.2) (n : ByteArray) :
    (Instr.lookup 62 v (.string n) c).run Try.prog w = .ok (if c then .tuple #[.int .i64 (leads d n), .bool (decide (leads d n ≠ 0))] else .int .i64 (leads d n)) w := by
  rcases h with ⟨rfl, hd⟩ | ⟨b, rfl, hm⟩
  · have : d = [] := by cases d with | nil => rfl | cons _ _ => simp [dv] at hd
    subst this
    exact look_nil c Try.underlying62 Try.underlying9 (key_s n) (zero3 w)
  · exact Go.Proofs.Ytodjgbmfmpbkjab.sv_look c hm hp n
theorem MapV.bv_look (c : Bool) {v : Value} {l : List (Nat × Nat)} (h : MapV (.int .i64) w v (bv l)) {n x : Nat} (hx : (n, x) ∈ l) :
    (Instr.lookup 63 v (.int .i64 n) c).run Try.prog w = .ok (if c then .tuple #[.pointer (some ⟨x, 0, none⟩), .bool true] else .pointer (some ⟨x, 0, none⟩)) w := by
  rcases h with ⟨rfl, hd⟩ | ⟨b, rfl, hm⟩
  · have : l = [] := by cases l with | nil => rfl | cons _ _ => simp [bv] at hd
    subst this; simp at hx
  · exact Go.Proofs.Ytodjgbmfmpbkjab.bv_look c hm hx
theorem MapV.bv_look_no (c : Bool) {v : Value} {l : List (Nat × Nat)} (h : MapV (.int .i64) w v (bv l)) {n : Int} (hx : ∀ e ∈ l, (e.1 : Int) ≠ n) :
    (Instr.lookup 63 v (.int .i64 n) c).run Try.prog w = .ok (if c then .tuple #[.pointer none, .bool false] else .pointer none) w := by
  rcases h with ⟨rfl, hd⟩ | ⟨b, rfl, hm⟩
  · exact look_nil c Try.underlying63 Try.underlying3 (key_i n) (zeroP w)
  · exact Go.Proofs.Ytodjgbmfmpbkjab.bv_look_no c hm hx
theorem disk_cells {vd vs vt vk vp : Value} (hp : w.heap[p]? = some (.cells (diskV cap made vd vs vt vk vp) 66 (0, 0))) : w.cell? ⟨p, 0, none⟩ = some (.int .i64 cap) ∧ w.cell? ⟨p, 1, none⟩ = some (.int .i64 made) ∧ w.cell? ⟨p, 2, none⟩ = some vd ∧ w.cell? ⟨p, 3, none⟩ = some vs ∧ w.cell? ⟨p, 4, none⟩ = some vt ∧ w.cell? ⟨p, 5, none⟩ = some vk ∧ w.cell? ⟨p, 6, none⟩ = some vp := by
  refine ⟨?_, ?_, ?_, ?_, ?_, ?_, ?_⟩ <;> (rw [Lib.cell_of_heap hp]; rfl)
/-- The numbers of the bodies that are laid by are all unlike. -/
def Uniq (L : List (Nat × Nat)) : Prop := ∀ e ∈ L, ∀ f ∈ L, e.1 = f.1 → e = f
/-- One body turned. -/
theorem Raw.body (h : Raw F p cap made now d0 cs T K bs w) (hu : Uniq (T ++ K)) {i b : Nat} {x x' : Bd} (hx : bs[i]? = some x) (hin : (i + 1, b) ∈ T ++ K) {w' : World} (ho : Only b w w') (hb' : BodyAt w' b x') {G : Nat → Prop} (hG : ∀ k, F k → G k) (hGb : ∀ k, bufOf w' b = some k → G k) :
    Raw G p cap made now d0 cs T K (bs.set i x') w' ∧ Kp F w w' := by
  obtain ⟨vd, vs, vt, vk, vp, hp, hF, hm, hr, hrF, hb, hn⟩ := h
  obtain ⟨_, xb, _, _, hxb⟩ := hb.at_ _ hin
  obtain ⟨cb, hcb⟩ := hxb.blk
  have hbF := hb.own _ hin
  simp only at hxb hcb hbF
  have ne1 : ∀ {k : Nat} {c : Array Value} {t : TypeId} {fr : Nat × Nat}, w.heap[k]? = some (.cells c t fr) → t ≠ 74 → t ≠ 5 → w'.heap[k]? = w.heap[k]? := fun {k c t fr} hk h1 h2 => ho.block k (blk_lt hk) (fun e => typed_ne hk hcb h1 e) (fun e => by
    obtain ⟨c', fz, hh⟩ := hxb.buf e
    exact typed_ne hk hh h2 rfl)
  have neM : ∀ v ∈ [vd, vs, vt, vk], ∀ k, v = .map (some k) → w'.heap[k]? = w.heap[k]? := fun v hv k hk => ho.block k (hm.inF hv hk).2 (fun e => hm.ne_cells hv hk hcb e) (fun e => by
    obtain ⟨c', fz, hh⟩ := hxb.buf e
    exact hm.ne_cells hv hk hh rfl)
  refine ⟨⟨vd, vs, vt, vk, vp, (ne1 hp (by decide) (by decide)).trans hp, hG _ hF, hm.keep neM hG, own_keep hr fun k hk => ?_, fun k hk => hG _ (hrF k hk), ?_, hn⟩, ho.kp hbF.1 hbF.2⟩
  · obtain ⟨cur, hh⟩ := own_typed hr hk
    exact ne1 hh (by decide) (by decide)
  · have other : ∀ e ∈ T ++ K, e.2 ≠ b → ∀ k, (k = e.2 ∨ bufOf w e.2 = some k) → w'.heap[k]? = w.heap[k]? := fun e he hne k hk => by
      obtain ⟨_, xe, _, _, hxe⟩ := hb.at_ e he
      obtain ⟨ce, hce⟩ := hxe.blk
      rcases hk with rfl | hk
      · refine ho.block _ (blk_lt hce) hne (fun e1 => ?_)
        obtain ⟨c', fz, hh⟩ := hxb.buf e1
        exact typed_ne hce hh (by decide) rfl
      · obtain ⟨c', fz, hh⟩ := hxe.buf hk
        exact ho.block _ (blk_lt hh) (fun e1 => typed_ne hh hcb (by decide) e1) (fun e1 => hb.buf e he _ hin hne k hk e1)
    have keepB : ∀ e ∈ T ++ K, e.2 ≠ b → bufOf w' e.2 = bufOf w e.2 := fun e he hne => bufOf_keep (other e he hne _ (.inl rfl))
    have isB : ∀ e ∈ T ++ K, e.2 = b → e = (i + 1, b) := fun e he hbe => hb.sep e he _ hin hbe
    refine ⟨fun e he => ?_, fun e he => ?_, hb.sep, fun e he f hf hne k h1 => ?_⟩
    · by_cases hbe : e.2 = b
      · obtain rfl := isB e he hbe
        exact ⟨i, x', rfl, by rw [List.getElem?_set_self (List.getElem?_eq_some_iff.1 hx).1], hb'⟩
      · obtain ⟨j, y, h1, h2, h3⟩ := hb.at_ e he
        refine ⟨j, y, h1, ?_, h3.keep (other e he hbe _ (.inl rfl)) fun k hk => other e he hbe k (.inr hk)⟩
        rw [List.getElem?_set_ne (fun e1 => hbe ?_)]
        · exact h2
        · have := hu e he _ hin (by rw [h1, e1])
          rw [this]
    · by_cases hbe : e.2 = b
      · obtain rfl := isB e he hbe
        exact ⟨hG _ hbF.1, hGb⟩
      · rw [keepB e he hbe]
        exact ⟨hG _ (hb.own e he).1, fun k hk => hG _ ((hb.own e he).2 k hk)⟩
    · by_cases h2 : e.2 = b
      · have h3 : f.2 ≠ b := fun e1 => hne (h2.trans e1.symm)
        rw [keepB f hf h3]
        rw [h2] at h1
        rcases ho.buf k h1 with h4 | h4
        · exact hb.buf e he f hf hne k (by rw [h2]; exact h4)
        · intro h5
          have := (hb.lt hf).2 k h5
          omega
      · rw [keepB e he h2] at h1
        by_cases h3 : f.2 = b
        · rw [h3]
          intro h4
          rcases ho.buf k h4 with h5 | h5
          · exact hb.buf e he f hf hne k h1 (by rw [h3]; exact h5)
          · have := (hb.lt he).2 k h1
            omega
        · rw [keepB f hf h3]; exact hb.buf e he f hf hne k h1
end
theorem Inv.uniq {st : St} {d0 : Dr} {cs : List Chg} {T K : List (Nat × Nat)} (h : Inv st d0 cs T K) (hT : (T.map (·.1)).Nodup) (hK : (K.map (·.1)).Nodup) : Uniq (T ++ K) := by
  have key : ∀ {l : List (Nat × Nat)}, (l.map (·.1)).Nodup → ∀ e ∈ l, ∀ f ∈ l, e.1 = f.1 → e = f := fun {l} hn e he f hf hef => by
    obtain ⟨i, hi, rfl⟩ := List.getElem_of_mem he
    obtain ⟨j, hj, rfl⟩ := List.getElem_of_mem hf
    have hp := List.pairwise_iff_getElem.1 hn
    rcases Nat.lt_trichotomy i j with h1 | h1 | h1
    · exact absurd (by rw [List.getElem_map, List.getElem_map]; exact hef) (hp i j (by simpa using hi) (by simpa using hj) h1)
    · subst h1; rfl
    · exact absurd (by rw [List.getElem_map, List.getElem_map]; exact hef.symm) (hp j i (by simpa using hj) (by simpa using hi) h1)
  intro e he f hf hef
  rcases List.mem_append.1 he with he | he <;> rcases List.mem_append.1 hf with hf | hf
  · exact key hT e he f hf hef
  · exact absurd hef.symm (h.apart f hf e he)
  · exact absurd hef (h.apart e he f hf)
  · exact key hK e he f hf hef
theorem MapV.uniq {w : World} {v : Value} {l : List (Nat × Nat)} (h : MapV (.int .i64) w v (bv l)) : (l.map (·.1)).Nodup := by
  rcases h with ⟨rfl, hd⟩ | ⟨b, rfl, hm⟩
  · have : l = [] := by cases l with | nil => rfl | cons _ _ => simp [bv] at hd
    subst this; simp
  · exact bv_uniq hm.apart
/-- A number, and the body that is there. -/
theorem body_of {F : Nat → Prop} {p : Nat} {st : St} {w : World} {d0 : Dr} {cs : List Chg} {T K : List (Nat × Nat)} (hr : Bods F w st.bodies (T ++ K)) (hi : Inv st d0 cs T K) (hw : Wf st) (n : Int) :
    (there st.now n = false ∧ st.at_ n = none ∧ ∀ e ∈ T, (e.1 : Int) ≠ n) ∨ ∃ i b x, n = ((i + 1 : Nat) : Int) ∧ (i + 1, b) ∈ T ∧ st.bodies[i]? = some x ∧ st.at_ n = some x ∧ there st.now n = true ∧ BodyAt w b x := by
  by_cases h : there st.now n = true
  · refine .inr ?_
    obtain ⟨i, x, hn, hx⟩ := there_body hw h
    obtain ⟨e, he, hen⟩ := there_mem h
    have hm : e.2 ∈ T.map (·.1) := hi.num.mem_iff.2 (List.mem_map.2 ⟨e, he, rfl⟩)
    obtain ⟨f, hf, hfe⟩ := List.mem_map.1 hm
    have hf1 : f.1 = i + 1 := by omega
    obtain ⟨j, y, h1, h2, h3⟩ := hr.at_ f (List.mem_append_left _ hf)
    have : j = i := by omega
    subst this
    rw [hx] at h2; cases h2
    refine ⟨j, f.2, x, by omega, by rw [← h1]; exact hf, hx, ?_, h, h3⟩
    rw [hn]; exact at_some (by rw [← hn]; exact h) hx
  · have h' : there st.now n = false := by simpa using h
    refine .inl ⟨h', at_none h', fun e he hne => h ?_⟩
    obtain ⟨f, hf, hfe⟩ := List.mem_map.1 (hi.num.mem_iff.1 (List.mem_map.2 ⟨e, he, rfl⟩))
    unfold there
    rw [List.any_eq_true]
    exact ⟨f, hf, by simp only [decide_eq_true_eq]; rw [hfe]; exact hne⟩
theorem Inv.put {st : St} {d0 : Dr} {cs : List Chg} {T K : List (Nat × Nat)} (h : Inv st d0 cs T K) (n : Int) (x : Bd) : Inv (st.put n x) d0 cs T K := ⟨h.dirs, h.dw, h.num, h.all, h.apart⟩
theorem Inv.pos {st : St} (hw : Wf st) : ∀ e ∈ st.now, 1 ≤ e.2 := fun e he => (hw.led _ (now_mem hw) e he).1
theorem Inv.now_eq {st : St} {d0 : Dr} {cs : List Chg} {T K : List (Nat × Nat)} (h : Inv st d0 cs T K) : st.now = endOf d0 cs := by
  unfold St.now; rw [h.dirs, chain_last]; rfl
theorem Inv.cs_len {st : St} {d0 : Dr} {cs : List Chg} {T K : List (Nat × Nat)} (h : Inv st d0 cs T K) : st.dirs.length = cs.length + 1 := by rw [h.dirs, chain_len]
end Go.Proofs.Ytodjgbmfmpbkjab
