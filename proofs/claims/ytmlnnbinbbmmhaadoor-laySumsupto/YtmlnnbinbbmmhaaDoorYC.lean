
-- lay.isTableTooLong: no list that is handed in here has a table so long.
import Derived.Test.YtmlnnbinbbmmhaaDoorYB0
import Derived.Test.YtmlnnbinbbmmhaaDoorYP
namespace Go.Proofs.YtmlnnbinbbmmhaaDoor
open Go.ChangeShapes Go.WideShapes Go.ChangeAt Go.RowKit
set_option linter.unusedVariables false
set_option maxRecDepth 100000
theorem tot_next {L : List ByteArray} {k : Nat} {s : ByteArray} (h : L[k]? = some s) : tot (L.take (k + 1)) = tot (L.take k) + (s.size + 1) := by
  have hl := (List.getElem?_eq_some_iff.1 h).1
  rw [List.take_add_one, h]
  unfold tot
  simp
set_option maxHeartbeats 4000000 in
theorem tooLong_c (k : Int) (v : Value) (L : List ByteArray) (w : World) (hv : RowT w v L) (ht : tot L ≤ 1099999) (hT : Tabs w) :
    Calls Tryd.prog 45 #[.int .i64 k, v] w fun e w' => e = .returned (.bool false) ∧ Below w.heap.size w w' := by
  obtain ⟨a1, c1, q1, hcap, hmx⟩ := hv.form
  obtain ⟨n, hnn⟩ : ∃ n, n = L.length := ⟨_, rfl⟩
  have hlt := tot_len L
  rw [← hnn] at q1 hcap hlt
  subst q1
  have hn : n ≤ 1099999 := Nat.le_trans hlt ht
  have HN := hidK hnn
  have HV : Hid (∀ W, Below w.heap.size w W → RowT W (.slice a1 n c1) L) := fun W hb => hv.on hb
  have HTK : Hid (∀ j, tot (L.take j) ≤ tot L) := fun j => tot_take L j
  have HT := hidK ht
  have HE : Hid (∀ (u : Value) (s : ByteArray) (W : World), Below w.heap.size w W → RowS W u [s] → s.size ≤ 1099998 → Calls Tryd.prog 10 #[.int .i64 k, u] W fun e w' => ∃ fa fl fc ia il ic t z, e = .returned (.tuple #[.agg #[.slice fa fl fc, .slice ia il ic, .string t], .int .i64 z]) ∧ t.size ≤ 2 * (s.size + 1) ∧ Below w.heap.size w w') := fun u s W hb hr hs => (pencA_c k u [s] W hr (by unfold tot; simp; omega) (hT.on hb)).mono (by
    rintro e w' ⟨fa, fl, fc, ia, il, ic, rfl, _, _, h3, _⟩
    refine ⟨fa, fl, fc, ia, il, ic, _, _, rfl, ?_, hb.trans (h3.mono hb.size)⟩
    have := encA_t_le k [s]
    unfold tot at this
    simpa using this)
  clear hv ht hT hnn
  go_enter Tryd.func45, Tryd.ntmps45
  go_wp2
  go_loopw [5, 11] (fun t i wx => ∃ (k : Nat) (m : Nat), i = .int .i64 k ∧ k ≤ n ∧ t = .int .i64 m ∧ m ≤ 2 * tot (L.take k) ∧ Below w.heap.size w wx) (fun _ i _ => n - (intOf i).toNat)
  case atStart => exact ⟨0, 0, rfl, Nat.zero_le _, rfl, Nat.zero_le _, Below.refl _ _⟩
  case round =>
    obtain ⟨j, m, rfl, hjn, rfl, hm, hB⟩ := hrel
    obtain ⟨wo, hwo⟩ : ∃ y, y = wr := ⟨_, rfl⟩
    subst hwo
    have HB := hidK hB
    by_cases hj : j < n
    · have jI : (j : Int) < (n : Int) := by omega
      have j0 : (0 : Int) ≤ (j : Int) := by omega
      have jw : IntKind.i64.wrap ((j : Int) + 1) = (j : Int) + 1 := by rw [IntKind.wrap_i64]; omega
      obtain ⟨s, hs⟩ : ∃ x, L[j]? = some x := ⟨_, List.getElem?_eq_getElem (by have := HN.out; omega)⟩
      obtain ⟨b1, o1, p1, e1, d0⟩ := (HV.out wo hB).tx hs
      injection e1 with e1 e1b e1c
      subst e1
      have hnx := tot_next hs
      have hmx2 := HTK.out (j + 1)
      have HM : Hid (m ≤ 2 * tot (L.take j) ∧ tot (L.take (j + 1)) = tot (L.take j) + (s.size + 1) ∧ tot (L.take (j + 1)) ≤ 1099999) := ⟨hm, hnx, by have := HT.out; omega⟩
      have jc : (j : Int) ≤ (c1 : Int) := by omega
      have jc1 : (j : Int) + 1 ≤ (c1 : Int) := by omega
      have jj : (j : Int) ≤ (j : Int) + 1 := by omega
      have hss : s.size ≤ 1099998 := by have := HT.out; omega
      have HC : Hid (∀ u, RowS wo u [s] → Calls Tryd.prog 10 #[.int .i64 k, u] wo fun e w' => ∃ fa fl fc ia il ic t z, e = .returned (.tuple #[.agg #[.slice fa fl fc, .slice ia il ic, .string t], .int .i64 z]) ∧ t.size ≤ 2 * (s.size + 1) ∧ Below w.heap.size w w') := fun u hr => HE.out u s wo hB hr hss
      have HRS : Hid (∀ cc, RowS wo (.slice (some ⟨b1, o1 + j, none⟩) 1 cc) [s]) := fun cc => .inr ⟨b1, o1 + j, cc, rfl, fun i hi => by
        obtain rfl : i = 0 := by simpa using hi
        exact d0⟩
      clear hs e1b e1c hm hnx hmx2 hss d0
      go_upto_region 5 with fail
      go_upto_region 6 with (go_at_call 10; refine (HC.out _ (HRS.out _)).mono ?_; rintro e w2 ⟨fa, fl, fc, ia, il, ic, t, z, rfl, hts, hb⟩; have HTS := hidK hts; have HB2 := hidK hb; clear hts hb)
      obtain ⟨w3, hw3⟩ : ∃ x, x = w2.alloc (.cells #[.slice fa fl fc, .slice ia il ic, .string t] 36) := ⟨_, rfl⟩
      have hb3 : Below w2.heap.size w2 w3 := by rw [hw3]; exact (Below.refl _ _).alloc (Nat.le_refl _) _
      have hz3 : w3.heap[w2.heap.size]? = some (.cells #[.slice fa fl fc, .slice ia il ic, .string t] 36 (0, 0)) := by rw [hw3]; exact heap_alloc_new _ _
      have z2 := cell_rowK hz3 2 _ rfl
      have HB3 : Hid (Below w.heap.size w w3) := HB2.out.trans (hb3.mono HB2.out.size)
      rw [← hw3]
      obtain ⟨h1, h2, h3⟩ := HM.out
      have h4 := HTS.out
      have mw : IntKind.i64.wrap ((m : Int) + (t.size : Int)) = ((m + t.size : Nat) : Int) := by rw [IntKind.wrap_i64]; omega
      have mn : ¬ (((m + t.size : Nat) : Int) > 67108864) := by omega
      have HM2 : Hid (m + t.size ≤ 2 * tot (L.take (j + 1))) := by show _ ≤ _; omega
      clear hw3 hb3 hz3 h1 h2 h3 h4 HE HC HRS
      go_wp2
      go_roundw
      case rel => exact ⟨j + 1, m + t.size, by go_num, by omega, by go_num, HM2.out, HB3.out⟩
      case measure => simp [intOf]; omega
    · obtain rfl : j = n := by omega
      clear HE hm
      go_wp2
      go_ret
      exact ⟨rfl, hB⟩
end Go.Proofs.YtmlnnbinbbmmhaaDoor
