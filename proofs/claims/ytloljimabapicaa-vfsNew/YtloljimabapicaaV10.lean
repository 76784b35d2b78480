
-- Names and Used: the maps gone through.
import Derived.Test.YtloljimabapicaaV9
import Derived.Sort.OwnSorted
import Derived.Sort.KeysCollected
import Derived.Sort.Walk0
import Derived.Laws.IdiomRangeMap
namespace Go.Proofs.Ytloljimabapicaa
open Go.RowKit
set_option linter.unusedVariables false
/-- A map's value: nil, or a block. -/
def MapV (d : TypeDesc) (w : World) (v : Value) (l : Prs) : Prop := (v = .map none ∧ l = []) ∨ ∃ b, v = .map (some b) ∧ MapAt d w b l
theorem MapV.len {d : TypeDesc} {w : World} {v : Value} {l : Prs} (h : MapV d w v l) {P : Program} {t k e : TypeId} (ht : P.underlying t = some (.map k e)) (ty : TypeId) : (Builtin.len_ #[t] ty #[v]).run P w = .ok (.int .i64 l.length) w := by
  rcases h with ⟨rfl, rfl⟩ | ⟨b, rfl, hb⟩
  · exact len_nil ht ty
  · exact hb.len ht ty
theorem MapV.keep {d : TypeDesc} {w w' : World} {v : Value} {l : Prs} (h : MapV d w v l) (hb : Below w.heap.size w w') : MapV d w' v l := by
  rcases h with h | ⟨b, rfl, hm⟩
  · exact .inl h
  · exact .inr ⟨b, rfl, hm.keep (hb.block b hm.lt)⟩
theorem enc_eq (l : List ByteArray) : strV l = (l.map fun s => s.data.toList).map encStr := by
  unfold strV
  rw [List.map_map]
  exact List.map_congr_left fun s _ => rfl
/-- A directory's names, sorted: they are as they are. -/
theorem sort_names {d : Dr} (h : Dw d) {ss : List ByteArray} (hp : ss.Perm (d.map (·.1))) : (ss.map fun s => s.data.toList).mergeSort leB = (d.map (·.1)).map fun s => s.data.toList := by
  rw [mergeSort_of_perm (hp.map fun s : ByteArray => s.data.toList)]
  apply List.mergeSort_of_pairwise
  rw [List.pairwise_map, List.pairwise_map]
  refine h.rise.imp_of_mem fun {a b} _ _ hlt => ?_
  unfold ltB at hlt
  rw [bytesLess_eq, Lib.toList_data, Lib.toList_data] at hlt
  have := of_decide_eq_true hlt
  simp only [leB, decide_eq_true_eq]
  exact List.le_of_lt this
theorem info9s : (Try.prog.info? 9).map (fun i => (i.zero, i.size, i.bytes)) = some (some (.string ⟨#[]⟩), 1, 16) := by kernel_rfl
/-- The sort, of a list of strings that the call owns. -/
theorem sort_c (base g cap : Nat) (ss : List ByteArray) (d : Dr) (w : World) (hd : Dw d) (hp : ss.Perm (d.map (·.1))) (h : w.ownsRow base 9 1 (.slice (some ⟨g, 0, none⟩) ss.length cap) ss.length (strV ss)) (hl : ss.length ≤ 64) :
    Calls Try.prog 38 #[.slice (some ⟨g, 0, none⟩) ss.length cap] w fun e w' => e = .returned (.tuple #[]) ∧ w'.ownsRow base 9 1 (.slice (some ⟨g, 0, none⟩) ss.length cap) ss.length (strV (d.map (·.1))) ∧ w.grownBy w' (some g) := by
  rcases h.2 with ⟨hnil, _⟩ | ⟨g', cap', cur, hv, hbase, hb, h1, h2, h3, h4⟩
  · cases hnil
  cases hv
  rw [enc_eq] at h4
  have hlen : (ss.map fun s => s.data.toList).length = ss.length := by simp
  have hH : Go.Sort.Holds encStr w g 0 (ss.map fun s => s.data.toList).toArray := holds_of_block hb (by rw [hlen]; simpa using h4)
  have hc := Try.slices_Sort_string g 0 cap (ss.map fun s => s.data.toList) w hH (blk_lt hb) (by rw [hlen]; omega)
  rw [hlen] at hc
  refine hc.mono ?_
  rintro e w' ⟨rfl, n, os, rfl⟩
  have hs := sort_names hd hp
  have hs' : (ss.map fun s => s.data.toList).mergeSort (fun x y => decide (x ≤ y)) = (d.map (·.1)).map fun s => s.data.toList := hs
  rw [hs', enc_eq]
  refine ⟨rfl, ?_, grownBy_sorted _⟩
  have := ownsRow_sorted (w := w) (base := base) (n := n) (os := os) (ss := ss.map fun s => s.data.toList) (ts := (d.map (·.1)).map fun s => s.data.toList) (by rw [hlen, List.length_map]; exact hp.length_eq.symm) hbase hb (by rw [hlen]; exact h1) h2 h3
  rw [hlen] at this
  exact this
def RangeV (d : TypeDesc) (w : World) (v : Value) (r : Nat) (l left : Prs) : Prop := (v = .map none ∧ l = [] ∧ left = [] ∧ w.heap[r]? = some (.mapIter none 0 #[] 0)) ∨ ∃ b, v = .map (some b) ∧ RangeAt d w b r l left
def leftV (w : World) (v : Value) (r : Nat) : Nat := match v with | .map (some b) => w.rangeLeft b r | _ => 0
theorem RangeV.left_eq {d : TypeDesc} {w : World} {v : Value} {r : Nat} {l left : Prs} (h : RangeV d w v r l left) : leftV w v r = left.length := by
  rcases h with ⟨rfl, _, rfl, _⟩ | ⟨b, rfl, hb⟩
  · rfl
  · exact hb.left_eq
theorem RangeV.lt {d : TypeDesc} {w : World} {v : Value} {r : Nat} {l left : Prs} (h : RangeV d w v r l left) : r < w.heap.size ∧ ∀ b, v = .map (some b) → b < w.heap.size := by
  rcases h with ⟨rfl, _, rfl, hr⟩ | ⟨b, rfl, hb⟩
  · exact ⟨blk_lt hr, fun b hb => by cases hb⟩
  · exact ⟨hb.lt.1, fun b' hb' => by cases hb'; exact hb.lt.2⟩
theorem RangeV.ne_cells {d : TypeDesc} {w : World} {v : Value} {r : Nat} {l left : Prs} (h : RangeV d w v r l left) {k : Nat} {cs : Array Value} {t : TypeId} {fr : Nat × Nat} (hk : w.heap[k]? = some (.cells cs t fr)) : r ≠ k ∧ ∀ b, v = .map (some b) → b ≠ k := by
  rcases h with ⟨rfl, _, rfl, hr⟩ | ⟨b, rfl, hb⟩
  · exact ⟨fun e => (by rw [e, hk] at hr; cases hr), fun b hb => (by cases hb)⟩
  · exact ⟨hb.ne_cells hk, fun b' hb' => by cases hb'; exact hb.map.ne_cells hk⟩
theorem RangeV.keep {d : TypeDesc} {w w' : World} {v : Value} {r : Nat} {l left : Prs} (h : RangeV d w v r l left) (hr' : w'.heap[r]? = w.heap[r]?) (hb' : ∀ b, v = .map (some b) → w'.heap[b]? = w.heap[b]?) : RangeV d w' v r l left := by
  rcases h with ⟨h1, h2, h3, hr⟩ | ⟨b, rfl, hb⟩
  · exact .inl ⟨h1, h2, h3, hr'.trans hr⟩
  · exact .inr ⟨b, rfl, hb.keep (hb' b rfl) hr'⟩
theorem MapV.range {d : TypeDesc} {w : World} {v : Value} {l : Prs} (h : MapV d w v l) {P : Program} {t k e : TypeId} (ht : P.underlying t = some (.map k e)) : ∃ w', (Instr.range t v).run P w = .ok (.pointer (some ⟨w.heap.size, 0, none⟩)) w' ∧ RangeV d w' v w.heap.size l l ∧ Below w.heap.size w w' ∧ w'.heap.size = w.heap.size + 1 := by
  rcases h with ⟨rfl, rfl⟩ | ⟨b, rfl, hb⟩
  · refine ⟨w.alloc (.mapIter none 0 #[] 0), ?_, .inl ⟨rfl, rfl, rfl, heap_alloc_new w _⟩, (Below.refl _ w).alloc (Nat.le_refl _) _, by simp⟩
    simp [Instr.range, run_underlying ht, Result.andThen]
  · obtain ⟨w', h1, h2, h3, h4⟩ := hb.range (P := P) ht
    exact ⟨w', h1, .inr ⟨b, rfl, h2⟩, h3, h4⟩
theorem RangeV.next {P : Program} {d : TypeDesc} {w : World} {v : Value} {r : Nat} {l left : Prs} (h : RangeV d w v r l left) :
    (left = [] ∧ ∀ ty, (Instr.next (.pointer (some ⟨r, 0, none⟩)) false ty).run P w = .ok (.tuple #[.bool false]) w) ∨
    ∃ p left' w', left.Perm (p :: left') ∧ p ∈ l ∧ (∀ ty, (Instr.next (.pointer (some ⟨r, 0, none⟩)) false ty).run P w = .ok (.tuple #[.bool true, p.1, p.2]) w') ∧ RangeV d w' v r l left' ∧
      w.grownBy w' (some r) ∧ w'.heap.size = w.heap.size ∧ (Instr.entry (.pointer (some ⟨r, 0, none⟩))).run P w' = .ok (.tuple #[p.1, p.2]) w' := by
  rcases h with ⟨rfl, rfl, rfl, hr⟩ | ⟨b, rfl, hb⟩
  · exact .inl ⟨rfl, fun ty => by simp [Instr.next, getObj, Sem.run, hr]⟩
  · rcases hb.next (P := P) 0 with ⟨h1, h2⟩ | ⟨p, left', w', h1, h2, h3, h4, h5, h6, h7⟩
    · exact .inl ⟨h1, fun ty => h2⟩
    · exact .inr ⟨p, left', w', h1, h2, fun ty => h3, .inr ⟨b, rfl, h4⟩, h5, h6, h7⟩
theorem RangeV.perm {d : TypeDesc} {w : World} {v : Value} {r : Nat} {l left left' : Prs} (h : RangeV d w v r l left) (hp : left.Perm left') : RangeV d w v r l left' := by
  rcases h with ⟨h1, h2, rfl, hr⟩ | ⟨b, rfl, hb⟩
  · exact .inl ⟨h1, h2, hp.nil_eq.symm, hr⟩
  · exact .inr ⟨b, rfl, hb.perm hp⟩
set_option maxHeartbeats 8000000 in
theorem pnames_c (p : Nat) (vd : Value) (d : Dr) (w : World) (c2 : w.cell? ⟨p, 2, none⟩ = some vd) (hm : MapV .string w vd (dv d)) (hd : Dw d) (hl : d.length ≤ 64) :
    Calls Try.prog 37 #[.pointer (some ⟨p, 0, none⟩)] w fun e w' => (∃ v, e = .returned v ∧ w'.ownsRow w.heap.size 9 1 v d.length (strV (d.map (·.1)))) ∧ Below w.heap.size w w' := by
  obtain ⟨i0, hi, hz0, hz1, hz2⟩ := info_parts info9s
  have HM : Hid (MapV .string w vd (dv d)) := hm
  have HD : Hid (Dw d) := hd
  have hpl : p < w.heap.size := World.block_lt_of_cell? w _ c2
  have C2 : Hid (w.cell? ⟨p, 2, none⟩ = some vd) := c2
  obtain ⟨n, hn⟩ : ∃ n, n = d.length := ⟨_, rfl⟩
  have HN : Hid (n = d.length) := hn
  rw [← hn] at hl
  clear hm hd hn
  go_enter Try.func37, Try.ntmps37
  go_wp2_with (first
    | (at_len; refine wp_len _ rfl _ 55 rfl _ _ rfl (by have := HM.out.len (P := Try.prog) Try.underlying55 3; rw [dv_len, ← HN.out] at this; exact this) ?_)
    | (at_make; refine wpList_make_own _ rfl _ _ 28 rfl w.heap.size 9 i0 (.string ⟨#[]⟩) 1 Try.underlying28 hi hz0 hz1 .i64 .i64 _ n rfl rfl rfl (by rw [hz2]; omega) (by unfold maxLen; omega) (Nat.le_refl _) ?_; intro w1 hown1 hg1; have hb1 : Below w.heap.size w w1 := (Below.refl _ w).grown hg1 (Nat.le_refl _) (fun k hk => by cases hk); have e2 := cell_below hb1 C2.out; obtain ⟨w2, hr2, hrg2, hbb2, hss2⟩ := (HM.out.keep hb1).range (P := Try.prog) Try.underlying55; obtain ⟨r, hr⟩ : ∃ r, r = w1.heap.size := ⟨_, rfl⟩; rw [← hr] at hr2 hrg2 hbb2 hss2; have H1 : Hid (w1.ownsRow w.heap.size 9 1 (.slice (some ⟨w.heap.size, 0, none⟩) 0 n) 0 [] ∧ Below w.heap.size w w1 ∧ RangeV .string w2 vd r (dv d) (dv d) ∧ Below r w1 w2 ∧ r = w1.heap.size ∧ w2.heap.size = r + 1) := ⟨hown1, hb1, hrg2, hbb2, hr, hss2⟩; clear hown1 hg1 hb1 hrg2 hbb2 hr hss2)
    | (at_range; refine wp_range _ rfl _ 55 rfl _ _ rfl w2 hr2 ?_))
  go_frame
  have hrlo : w.heap.size ≤ r := by have := H1.out.2.1.size; have := H1.out.2.2.2.2.1; omega
  have HLO : Hid (∀ b, vd = .map (some b) → b < w.heap.size) := fun b hb => by
    rcases HM.out with ⟨h, _⟩ | ⟨b', h, hm⟩
    · rw [h] at hb; cases hb
    · rw [h] at hb; cases hb; exact hm.lt
  have HL : Hid (d.length ≤ 64) := by show d.length ≤ 64; rw [← HN.out]; exact hl
  clear hr2 e2 c2
  go_loopw [3, 4] (fun v _ wr => ∃ (dl : Dr) (ss : List ByteArray), RangeV .string wr vd r (dv d) (dv dl) ∧ wr.ownsRow w.heap.size 9 1 v ss.length (strV ss) ∧ (ss ++ dl.map (·.1)).Perm (d.map (·.1)) ∧ v ≠ .slice none 0 0 ∧ Below w.heap.size w wr) (fun _ _ wr => leftV wr vd r)
  case atStart =>
    obtain ⟨h1, h2, h3, h4, h5, h6⟩ := H1.out
    refine ⟨d, [], h3, ?_, by simp, by simp, h2.trans (h4.mono (by omega))⟩
    exact own_keep h1 fun k hk => h4.block k (by rw [h5]; exact (h1.lt k hk).2)
  case round =>
    obtain ⟨dl, ss, hrg, hown, hperm, hnn, hbw⟩ := hrel
    have HRG : Hid (RangeV .string wr vd r (dv d) (dv dl)) := hrg
    have hsw := hbw.size
    have hlen : ss.length + dl.length = d.length := by have := hperm.length_eq; simpa using this
    have HLEN : Hid (ss.length + dl.length = d.length) := hlen
    have HPM : Hid ((ss ++ dl.map (·.1)).Perm (d.map (·.1))) := hperm
    rcases hrg.next (P := Try.prog) with ⟨hl0, hnx⟩ | ⟨pv, left', w2', hper2, _, hnx, hrg2, hgr, hs2, hen⟩
    · have hdl : dl = [] := by
        cases dl with
        | nil => rfl
        | cons _ _ => simp [dv] at hl0
      subst hdl
      obtain ⟨g, cap, rfl⟩ : ∃ g cap, u3 = .slice (some ⟨g, 0, none⟩) ss.length cap := by
        rcases hown.2 with ⟨h, _⟩ | ⟨g, cap, cur, hv, _⟩
        · exact absurd h hnn
        · exact ⟨g, cap, hv⟩
      have hgl := (hown.lt g rfl).1
      have hpm : ss.Perm (d.map (·.1)) := by simpa using hperm
      have HSO : Hid (Calls Try.prog 38 #[.slice (some ⟨g, 0, none⟩) ss.length cap] wr fun e w' => e = .returned (.tuple #[]) ∧ w'.ownsRow w.heap.size 9 1 (.slice (some ⟨g, 0, none⟩) ss.length cap) ss.length (strV (d.map (·.1))) ∧ wr.grownBy w' (some g)) := sort_c w.heap.size g cap ss d wr HD.out hpm hown (by have := HL.out; simp at hlen; omega)
      have HEQ : Hid (ss.length = d.length) := by show ss.length = d.length; simpa using hlen
      have HB : Hid (Below w.heap.size w wr) := hbw
      clear hrg hown hperm hnn hbw hlen hpm hl0 HRG
      go_wp2_with (go_at_call 38; refine HSO.out.mono ?_; rintro e w4 ⟨rfl, ho4, hg4⟩)
      go_ret
      exact ⟨⟨_, rfl, by rw [HEQ.out] at ho4 ⊢; exact ho4⟩, HB.out.grown hg4 hsw (fun k hk => by cases hk; exact hgl)⟩
    · obtain ⟨e, dl', hd, rfl, hl'⟩ := map_split (f := fun e : ByteArray × Nat => (Value.string e.1, Value.int .i64 e.2)) hper2
      have hrg3 : RangeV .string w2' vd r (dv d) (dv dl') := hrg2.perm hl'
      obtain ⟨nm, m⟩ := e
      simp only at hnx hen
      have hown2 : w2'.ownsRow w.heap.size 9 1 u3 ss.length (strV ss) := own_keep hown fun k hk => hgr.block k (hown.lt k hk).2 (fun e => by
        cases e
        obtain ⟨cur, hh⟩ := own_typed hown hk
        exact (hrg.ne_cells hh).1 rfl)
      have hb2 : Below w.heap.size w w2' := hbw.grown hgr hsw (fun k hk => by cases hk; exact hrlo)
      have hs2' : w.heap.size ≤ w2'.heap.size := by omega
      have hdl : dl.length = dl'.length + 1 := by rw [hd.length_eq]; simp
      have H2 : Hid (RangeV .string w2' vd r (dv d) (dv dl')) := hrg3
      have HB2 : Hid (Below w.heap.size w w2') := hb2
      have HDL : Hid (dl.Perm ((nm, m) :: dl')) := hd
      have hsl : ss.length + 1 ≤ 64 := by have := HL.out; have := HLEN.out; omega
      have HO2 : Hid (w2'.ownsRow w.heap.size 9 1 u3 ss.length (strV ss)) := hown2
      clear hrg hown hperm hnn hbw hlen hrg2 hgr hs2 hd hl' hper2 hrg3 hb2 hdl hsw hown2
      go_wp2_with (at_builtin; refine wpList_append_own _ rfl _ _ 28 rfl w.heap.size 9 i0 (.string ⟨#[]⟩) 1 16 Try.underlying28 hi hz0 hz1 hz2 rfl (by decide) _ _ _ rfl (HO2.out.alloc _) ⟨w2'.heap.size, 0, none⟩ 1 1 [.string nm] rfl rfl (cell_one_new _ _ _) (by intro u hu; simp at hu; subst hu; rfl) ?c3 ?c4 ?c5 ?_)
      case c3 => unfold maxLen; omega
      case c4 => omega
      case c5 => first | omega | (simp; omega)
      intro v' w3 hown' hgrow hnil
      have hrr := H2.out.lt
      have R3 : RangeV .string w3 vd r (dv d) (dv dl') := by
        have hne : ∀ k cur t fr, w2'.heap[k]? = some (.cells cur t fr) → r ≠ k ∧ ∀ b, vd = .map (some b) → b ≠ k := fun k cur t fr hk => H2.out.ne_cells hk
        refine H2.out.keep ((hgrow.block r (by simp; omega) (fun e => ?_)).trans (Lib.alloc_old _ _ r hrr.1)) fun b hb => (hgrow.block b (by have := hrr.2 b hb; simp; omega) (fun e => ?_)).trans (Lib.alloc_old _ _ b (hrr.2 b hb))
        · obtain ⟨cur, hh⟩ := own_typed HO2.out e.symm
          exact (hne _ _ _ _ hh).1 rfl
        · obtain ⟨cur, hh⟩ := own_typed HO2.out e.symm
          exact (hne _ _ _ _ hh).2 b hb rfl
      have hb3 : Below w.heap.size w w3 := (HB2.out.alloc (by omega) _).grown hgrow (by simp; omega) (fun k hk => (HO2.out.lt k hk).1)
      have hnil2 : v' ≠ .slice none 0 0 := fun h => by
        rcases hown'.2 with ⟨_, h0⟩ | ⟨g, cap, cur, hv, _⟩
        · omega
        · rw [hv] at h; cases h
      clear hgrow hnil
      go_wp2
      refine ⟨⟨dl', ss ++ [nm], R3, ?_, ?_, hnil2, hb3⟩, ?_⟩
      · have e1 : (ss ++ [nm]).length = ss.length + 1 := by simp
        have e2 : strV (ss ++ [nm]) = strV ss ++ [.string nm] := by simp [strV]
        rw [e1, e2]; exact hown'
      · refine List.Perm.trans ?_ HPM.out
        rw [List.append_assoc]
        exact ((HDL.out.map (·.1)).symm).append_left _
      · rw [R3.left_eq, HRG.out.left_eq, dv_len, dv_len, HDL.out.length_eq]; simp
end Go.Proofs.Ytloljimabapicaa
