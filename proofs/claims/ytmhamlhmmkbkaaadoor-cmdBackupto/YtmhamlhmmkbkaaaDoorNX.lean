
-- next: a word off the line.
import Derived.Test.YtmhamlhmmkbkaaaDoorLR
import Derived.Test.YtmhamlhmmkbkaaaDoorShelf
namespace Go.Proofs.YtmhamlhmmkbkaaaDoor
open Go.ChangeShapes Go.WideShapes Go.ChangeAt Go.RowKit Go.MapKept Go.Shelf
set_option linter.unusedVariables false
set_option maxRecDepth 100000
set_option linter.unusedSimpArgs false
def anyW (w : ByteArray) : Bool := true
theorem hasP (x : ByteArray) : Lib.hasPrefix x.data.toList [45, 45] = isLong x := by
  unfold isLong byL
  generalize x.data.toList = l
  cases l with
  | nil => rfl
  | cons a t =>
    cases t with
    | nil => simp [Lib.hasPrefix, List.isPrefixOf]
    | cons c u =>
      simp only [Lib.hasPrefix]
      by_cases h1 : a = 45
      · by_cases h2 : c = 45
        · subst h1; subst h2; simp
        · have h3 : ((45 : UInt8) == c) = false := beq_eq_false_iff_ne.2 fun q => h2 q.symm
          subst h1; simp [List.isPrefixOf, h2, h3]
      · have h3 : ((45 : UInt8) == a) = false := beq_eq_false_iff_ne.2 fun q => h1 q.symm
        simp [List.isPrefixOf, h1, h3]
theorem isLong_c (x : ByteArray) (w : World) : Calls Tryd.prog 33 #[.string x] w fun e w' => e = .returned (.bool (isLong x)) ∧ w' = w := by
  have H := hidK (Tryd.strings_HasPrefix x ⟨#[45, 45]⟩ w)
  have e : Lib.hasPrefix x.data.toList (⟨#[45, 45]⟩ : ByteArray).data.toList = isLong x := hasP x
  rw [e] at H
  go_enter Tryd.func33, Tryd.ntmps33
  go_wp2_with (go_at_call 41; refine H.out.mono ?_; rintro e w1 ⟨rfl, hw1⟩; rw [hw1]; clear hw1)
  go_ret
  exact ⟨rfl, rfl⟩
theorem anyW_c (x : ByteArray) (w : World) : Calls Tryd.prog 34 #[.string x] w fun e w' => e = .returned (.bool (anyW x)) ∧ w' = w := by
  go_enter Tryd.func34, Tryd.ntmps34
  go_wp2
  go_ret
  exact ⟨rfl, rfl⟩
theorem dsh_c (x : ByteArray) (w : World) : Calls Tryd.prog 29 #[.string x] w fun e w' => e = .returned (.bool (dsh x)) ∧ w' = w := by
  by_cases h : 1 < x.size
  · have hi := idxT x 0 (by omega)
    have hd := dsh_long h
    rw [hd]
    clear hd hi
    have h1 : (1 : Int) < (x.size : Int) := by omega
    have hq : (((x[0]'(by omega)).toNat : Int) == 45) = (x[0]'(by omega) == 45) := by
      generalize x[0]'(by omega) = c
      by_cases h4 : c = 45
      · subst h4; rfl
      · have := u8I h4
        rw [show ((45 : UInt8).toNat : Int) = 45 from rfl] at this
        rw [this]; symm; exact beq_eq_false_iff_ne.2 h4
    rw [← hq]
    clear hq
    go_enter Tryd.func29, Tryd.ntmps29
    go_wp2
    go_ret
    exact ⟨rfl, rfl⟩
  · rw [dsh_short (by omega)]
    have h1 : ¬ (1 : Int) < (x.size : Int) := by omega
    have h2 : decide ((1 : Int) < (x.size : Int)) = false := decide_eq_false h1
    go_enter Tryd.func29, Tryd.ntmps29
    go_wp2
    go_ret
    exact ⟨rfl, rfl⟩
theorem rowT_tail {w : World} {b1 off n cap : Nat} {x : ByteArray} {t : List ByteArray} (h : RowT w (.slice (some ⟨b1, off, none⟩) n cap) (x :: t)) : n = t.length + 1 ∧ n ≤ cap ∧ cap ≤ maxLen ∧ w.cell? ⟨b1, off, none⟩ = some (.string x) ∧ (cap = 1 → RowT w (.slice (some ⟨b1, off, none⟩) 0 0) t) ∧ RowT w (.slice (some ⟨b1, off + 1, none⟩) t.length (cap - 1)) t := by
  obtain ⟨ao, c, e, h1, h2, h3, h4⟩ := h
  injection e with e1 e2 e3
  subst e1; subst e3
  simp only [List.length_cons] at e2 h1
  obtain ⟨b', o', e, hc⟩ := h4 (by simp)
  injection e with e
  injection e with e5 e6
  subst e5; subst e6
  refine ⟨e2, by omega, h2, hc 0 _ rfl, ?_, ?_⟩
  · intro h5
    have ht : t = [] := List.eq_nil_of_length_eq_zero (by omega)
    subst ht
    exact ⟨some ⟨b1, off, none⟩, 0, rfl, Nat.le_refl _, Nat.zero_le _, (fun q => by cases q), fun q => absurd q (by decide)⟩
  · refine ⟨some ⟨b1, off + 1, none⟩, cap - 1, rfl, by omega, by omega, (fun q => by cases q), fun q => ⟨b1, off + 1, rfl, ?_⟩⟩
    intro j u hu
    have := hc (j + 1) u (by simpa [txL] using hu)
    rw [show off + 1 + j = off + (j + 1) by omega]
    exact this
set_option maxHeartbeats 1000000 in
theorem next_nil_isLong (w0 : World) (b : Nat) (w : World) (pr : Int) (r : Rd) (anc arc : ByteArray) (h : Ln w0 b w pr r anc arc []) :
    Calls Tryd.prog 32 #[.pointer (some ⟨b, 0, none⟩), .func (.func 33) #[] #[]] w fun e w' => e = .returned (.tuple #[.string ⟨#[]⟩, .bool false]) ∧ w' = w := by
  obtain ⟨a, n, cap, h1, h2⟩ := h.box
  obtain ⟨ao, c2, e, _⟩ := h1
  injection e with e1 e2 e3
  simp only [List.length_nil] at e2
  subst e2
  unfold lnRow at h2
  have c0 := cell_rowK h2 0 _ rfl
  clear h2 e1 e3
  go_enter Tryd.func32, Tryd.ntmps32
  go_wp2
  go_ret2
  exact ⟨rfl, rfl⟩
set_option maxHeartbeats 1000000 in
theorem next_no_isLong (w0 : World) (b : Nat) (w : World) (pr : Int) (r : Rd) (anc arc : ByteArray) (x : ByteArray) (t : List ByteArray) (h : Ln w0 b w pr r anc arc (x :: t)) (hp : isLong x = false) :
    Calls Tryd.prog 32 #[.pointer (some ⟨b, 0, none⟩), .func (.func 33) #[] #[]] w fun e w' => e = .returned (.tuple #[.string ⟨#[]⟩, .bool false]) ∧ w' = w := by
  obtain ⟨a, n, cap, h1, h2⟩ := h.box
  obtain ⟨b1, off, c3, e, hx⟩ := h1.tx (k := 0) rfl
  injection e with e1 e2 e3
  subst e1
  obtain ⟨hn, hnc, hcm, hx, _, _⟩ := rowT_tail h1
  subst hn
  have hx1 := cell_onG hx h.bel
  unfold lnRow at h2
  have c0 := cell_rowK h2 0 _ rfl
  have H := hidK (isLong_c x)
  rw [hp] at H
  have hz : ((t.length + 1 : Nat) : Int) ≠ 0 := by omega
  obtain ⟨N, hN⟩ : ∃ N, N = t.length + 1 := ⟨_, rfl⟩
  rw [← hN] at c0 hz
  have h0 : (0 : Int) < (N : Int) := by omega
  have hz1 : N ≠ 0 := by omega
  clear h2 e2 e3 hx h1 hN hnc
  go_enter Tryd.func32, Tryd.ntmps32
  go_wp2_with (go_at_call 33; refine (H.out _).mono ?_; rintro e w1 ⟨rfl, hw1⟩; rw [hw1]; clear hw1)
  go_ret2
  exact ⟨rfl, rfl⟩
set_option maxHeartbeats 1000000 in
theorem next_yes1_isLong (w0 : World) (b : Nat) (w : World) (pr : Int) (r : Rd) (anc arc : ByteArray) (x : ByteArray) (t : List ByteArray) (h : Ln w0 b w pr r anc arc (x :: t)) (hp : isLong x = true) (b1 off n cap : Nat) (h1 : RowT w0 (.slice (some ⟨b1, off, none⟩) n cap) (x :: t)) (h2 : w.heap[b]? = some (.cells (lnRow (some ⟨b1, off, none⟩) n cap pr r anc arc) 43 (0, 0))) (hc : cap = 1) :
    Calls Tryd.prog 32 #[.pointer (some ⟨b, 0, none⟩), .func (.func 33) #[] #[]] w fun e w' => e = .returned (.tuple #[.string x, .bool true]) ∧ Ln w0 b w' pr r anc arc t ∧ Kq b w w' := by
  obtain ⟨hn, hnc, hcm, hx, hr1, hr2⟩ := rowT_tail h1
  have hx1 := cell_onG hx h.bel
  have HH := hidK h
  have HR2 := hidK hr2
  have HR1 := hidK (hr1 hc)
  have ht : t.length = 0 := by omega
  subst hc
  have hn1 : n = 1 := by omega
  subst hn1
  unfold lnRow at h2
  have c0 := cell_rowK h2 0 _ rfl
  have H := hidK (isLong_c x)
  rw [hp] at H
  clear hx h1 hr1 hr2 hn h hp
  go_enter Tryd.func32, Tryd.ntmps32
  go_wp2_with (first
    | (go_at_call 33; refine (H.out _).mono ?_; rintro e w1 ⟨rfl, hw1⟩; rw [hw1]; clear hw1)
    | (refine wpList_store_kz rfl rfl _ _ _ rfl b 0 (.slice (some ⟨b1, off, none⟩) 0 0) rfl rfl _ _ #[.slice (some ⟨b1, off, none⟩) 0 0, .int .i64 pr, .int .u8 ((opF r.op r.s).toNat : Int), .bool r.vb, .bool r.up, .bool r.qu, .bool r.det, .bool r.dat, .bool r.bare, .bool r.thin, .int .i64 r.kind, .int .i64 (whOf r.po), .string anc, .string arc, .slice none 0 0, .string (byB (poL r.po))] h2 (by kernel_rfl) rfl rfl rfl ?_; intro W1 S1 q1))
  go_ret2
  refine ⟨rfl, HH.out.turn q1 HH.out.ops ⟨_, _, _, ?_, S1⟩, q1⟩
  exact HR1.out
set_option maxHeartbeats 1000000 in
theorem next_yes2_isLong (w0 : World) (b : Nat) (w : World) (pr : Int) (r : Rd) (anc arc : ByteArray) (x : ByteArray) (t : List ByteArray) (h : Ln w0 b w pr r anc arc (x :: t)) (hp : isLong x = true) (b1 off n cap : Nat) (h1 : RowT w0 (.slice (some ⟨b1, off, none⟩) n cap) (x :: t)) (h2 : w.heap[b]? = some (.cells (lnRow (some ⟨b1, off, none⟩) n cap pr r anc arc) 43 (0, 0))) (hc : cap ≠ 1) :
    Calls Tryd.prog 32 #[.pointer (some ⟨b, 0, none⟩), .func (.func 33) #[] #[]] w fun e w' => e = .returned (.tuple #[.string x, .bool true]) ∧ Ln w0 b w' pr r anc arc t ∧ Kq b w w' := by
  obtain ⟨hn, hnc, hcm, hx, hr1, hr2⟩ := rowT_tail h1
  have hx1 := cell_onG hx h.bel
  have HH := hidK h
  have HR2 := hidK hr2
  obtain ⟨N, hN⟩ : ∃ N, N = t.length + 1 := ⟨_, rfl⟩
  have hn1 : n = N := by omega
  subst hn1
  have HNN := hidK hN
  have hz : ((n : Nat) : Int) ≠ 0 := by omega
  have h0 : (0 : Int) < (n : Int) := by omega
  have hz1 : n ≠ 0 := by omega
  have h11 : (1 : Int) ≤ (n : Int) := by omega
  have h12 : (n : Int) ≤ (cap : Int) := by omega
  unfold lnRow at h2
  have c0 := cell_rowK h2 0 _ rfl
  have H := hidK (isLong_c x)
  rw [hp] at H
  clear hx h1 hr1 hr2 hn h hp hN
  go_enter Tryd.func32, Tryd.ntmps32
  go_wp2_with (first
    | (go_at_call 33; refine (H.out _).mono ?_; rintro e w1 ⟨rfl, hw1⟩; rw [hw1]; clear hw1)
    | (refine wpList_store_kz rfl rfl _ _ _ rfl b 0 (.slice (some ⟨b1, off + 1, none⟩) (n - 1) (cap - 1)) rfl rfl _ _ #[.slice (some ⟨b1, off + 1, none⟩) (n - 1) (cap - 1), .int .i64 pr, .int .u8 ((opF r.op r.s).toNat : Int), .bool r.vb, .bool r.up, .bool r.qu, .bool r.det, .bool r.dat, .bool r.bare, .bool r.thin, .int .i64 r.kind, .int .i64 (whOf r.po), .string anc, .string arc, .slice none 0 0, .string (byB (poL r.po))] h2 (by kernel_rfl) rfl rfl rfl ?_; intro W1 S1 q1))
  go_ret2
  refine ⟨rfl, HH.out.turn q1 HH.out.ops ⟨_, _, _, ?_, S1⟩, q1⟩
  have e5 : n - 1 = t.length := by have := HNN.out; omega
  rw [e5]; exact HR2.out
theorem next_yes_isLong (w0 : World) (b : Nat) (w : World) (pr : Int) (r : Rd) (anc arc : ByteArray) (x : ByteArray) (t : List ByteArray) (h : Ln w0 b w pr r anc arc (x :: t)) (hp : isLong x = true) :
    Calls Tryd.prog 32 #[.pointer (some ⟨b, 0, none⟩), .func (.func 33) #[] #[]] w fun e w' => e = .returned (.tuple #[.string x, .bool true]) ∧ Ln w0 b w' pr r anc arc t ∧ Kq b w w' := by
  obtain ⟨a, n, cap, h1, h2⟩ := h.box
  obtain ⟨b1, off, c3, e, hx⟩ := h1.tx (k := 0) rfl
  injection e with e1 e2 e3
  subst e1
  by_cases hc : cap = 1
  · exact next_yes1_isLong w0 b w pr r anc arc x t h hp b1 off n cap h1 h2 hc
  · exact next_yes2_isLong w0 b w pr r anc arc x t h hp b1 off n cap h1 h2 hc
set_option maxHeartbeats 1000000 in
theorem next_nil_dsh (w0 : World) (b : Nat) (w : World) (pr : Int) (r : Rd) (anc arc : ByteArray) (h : Ln w0 b w pr r anc arc []) :
    Calls Tryd.prog 32 #[.pointer (some ⟨b, 0, none⟩), .func (.func 29) #[] #[]] w fun e w' => e = .returned (.tuple #[.string ⟨#[]⟩, .bool false]) ∧ w' = w := by
  obtain ⟨a, n, cap, h1, h2⟩ := h.box
  obtain ⟨ao, c2, e, _⟩ := h1
  injection e with e1 e2 e3
  simp only [List.length_nil] at e2
  subst e2
  unfold lnRow at h2
  have c0 := cell_rowK h2 0 _ rfl
  clear h2 e1 e3
  go_enter Tryd.func32, Tryd.ntmps32
  go_wp2
  go_ret2
  exact ⟨rfl, rfl⟩
set_option maxHeartbeats 1000000 in
theorem next_no_dsh (w0 : World) (b : Nat) (w : World) (pr : Int) (r : Rd) (anc arc : ByteArray) (x : ByteArray) (t : List ByteArray) (h : Ln w0 b w pr r anc arc (x :: t)) (hp : dsh x = false) :
    Calls Tryd.prog 32 #[.pointer (some ⟨b, 0, none⟩), .func (.func 29) #[] #[]] w fun e w' => e = .returned (.tuple #[.string ⟨#[]⟩, .bool false]) ∧ w' = w := by
  obtain ⟨a, n, cap, h1, h2⟩ := h.box
  obtain ⟨b1, off, c3, e, hx⟩ := h1.tx (k := 0) rfl
  injection e with e1 e2 e3
  subst e1
  obtain ⟨hn, hnc, hcm, hx, _, _⟩ := rowT_tail h1
  subst hn
  have hx1 := cell_onG hx h.bel
  unfold lnRow at h2
  have c0 := cell_rowK h2 0 _ rfl
  have H := hidK (dsh_c x)
  rw [hp] at H
  have hz : ((t.length + 1 : Nat) : Int) ≠ 0 := by omega
  obtain ⟨N, hN⟩ : ∃ N, N = t.length + 1 := ⟨_, rfl⟩
  rw [← hN] at c0 hz
  have h0 : (0 : Int) < (N : Int) := by omega
  have hz1 : N ≠ 0 := by omega
  clear h2 e2 e3 hx h1 hN hnc
  go_enter Tryd.func32, Tryd.ntmps32
  go_wp2_with (go_at_call 29; refine (H.out _).mono ?_; rintro e w1 ⟨rfl, hw1⟩; rw [hw1]; clear hw1)
  go_ret2
  exact ⟨rfl, rfl⟩
set_option maxHeartbeats 1000000 in
theorem next_yes1_dsh (w0 : World) (b : Nat) (w : World) (pr : Int) (r : Rd) (anc arc : ByteArray) (x : ByteArray) (t : List ByteArray) (h : Ln w0 b w pr r anc arc (x :: t)) (hp : dsh x = true) (b1 off n cap : Nat) (h1 : RowT w0 (.slice (some ⟨b1, off, none⟩) n cap) (x :: t)) (h2 : w.heap[b]? = some (.cells (lnRow (some ⟨b1, off, none⟩) n cap pr r anc arc) 43 (0, 0))) (hc : cap = 1) :
    Calls Tryd.prog 32 #[.pointer (some ⟨b, 0, none⟩), .func (.func 29) #[] #[]] w fun e w' => e = .returned (.tuple #[.string x, .bool true]) ∧ Ln w0 b w' pr r anc arc t ∧ Kq b w w' := by
  obtain ⟨hn, hnc, hcm, hx, hr1, hr2⟩ := rowT_tail h1
  have hx1 := cell_onG hx h.bel
  have HH := hidK h
  have HR2 := hidK hr2
  have HR1 := hidK (hr1 hc)
  have ht : t.length = 0 := by omega
  subst hc
  have hn1 : n = 1 := by omega
  subst hn1
  unfold lnRow at h2
  have c0 := cell_rowK h2 0 _ rfl
  have H := hidK (dsh_c x)
  rw [hp] at H
  clear hx h1 hr1 hr2 hn h hp
  go_enter Tryd.func32, Tryd.ntmps32
  go_wp2_with (first
    | (go_at_call 29; refine (H.out _).mono ?_; rintro e w1 ⟨rfl, hw1⟩; rw [hw1]; clear hw1)
    | (refine wpList_store_kz rfl rfl _ _ _ rfl b 0 (.slice (some ⟨b1, off, none⟩) 0 0) rfl rfl _ _ #[.slice (some ⟨b1, off, none⟩) 0 0, .int .i64 pr, .int .u8 ((opF r.op r.s).toNat : Int), .bool r.vb, .bool r.up, .bool r.qu, .bool r.det, .bool r.dat, .bool r.bare, .bool r.thin, .int .i64 r.kind, .int .i64 (whOf r.po), .string anc, .string arc, .slice none 0 0, .string (byB (poL r.po))] h2 (by kernel_rfl) rfl rfl rfl ?_; intro W1 S1 q1))
  go_ret2
  refine ⟨rfl, HH.out.turn q1 HH.out.ops ⟨_, _, _, ?_, S1⟩, q1⟩
  exact HR1.out
set_option maxHeartbeats 1000000 in
theorem next_yes2_dsh (w0 : World) (b : Nat) (w : World) (pr : Int) (r : Rd) (anc arc : ByteArray) (x : ByteArray) (t : List ByteArray) (h : Ln w0 b w pr r anc arc (x :: t)) (hp : dsh x = true) (b1 off n cap : Nat) (h1 : RowT w0 (.slice (some ⟨b1, off, none⟩) n cap) (x :: t)) (h2 : w.heap[b]? = some (.cells (lnRow (some ⟨b1, off, none⟩) n cap pr r anc arc) 43 (0, 0))) (hc : cap ≠ 1) :
    Calls Tryd.prog 32 #[.pointer (some ⟨b, 0, none⟩), .func (.func 29) #[] #[]] w fun e w' => e = .returned (.tuple #[.string x, .bool true]) ∧ Ln w0 b w' pr r anc arc t ∧ Kq b w w' := by
  obtain ⟨hn, hnc, hcm, hx, hr1, hr2⟩ := rowT_tail h1
  have hx1 := cell_onG hx h.bel
  have HH := hidK h
  have HR2 := hidK hr2
  obtain ⟨N, hN⟩ : ∃ N, N = t.length + 1 := ⟨_, rfl⟩
  have hn1 : n = N := by omega
  subst hn1
  have HNN := hidK hN
  have hz : ((n : Nat) : Int) ≠ 0 := by omega
  have h0 : (0 : Int) < (n : Int) := by omega
  have hz1 : n ≠ 0 := by omega
  have h11 : (1 : Int) ≤ (n : Int) := by omega
  have h12 : (n : Int) ≤ (cap : Int) := by omega
  unfold lnRow at h2
  have c0 := cell_rowK h2 0 _ rfl
  have H := hidK (dsh_c x)
  rw [hp] at H
  clear hx h1 hr1 hr2 hn h hp hN
  go_enter Tryd.func32, Tryd.ntmps32
  go_wp2_with (first
    | (go_at_call 29; refine (H.out _).mono ?_; rintro e w1 ⟨rfl, hw1⟩; rw [hw1]; clear hw1)
    | (refine wpList_store_kz rfl rfl _ _ _ rfl b 0 (.slice (some ⟨b1, off + 1, none⟩) (n - 1) (cap - 1)) rfl rfl _ _ #[.slice (some ⟨b1, off + 1, none⟩) (n - 1) (cap - 1), .int .i64 pr, .int .u8 ((opF r.op r.s).toNat : Int), .bool r.vb, .bool r.up, .bool r.qu, .bool r.det, .bool r.dat, .bool r.bare, .bool r.thin, .int .i64 r.kind, .int .i64 (whOf r.po), .string anc, .string arc, .slice none 0 0, .string (byB (poL r.po))] h2 (by kernel_rfl) rfl rfl rfl ?_; intro W1 S1 q1))
  go_ret2
  refine ⟨rfl, HH.out.turn q1 HH.out.ops ⟨_, _, _, ?_, S1⟩, q1⟩
  have e5 : n - 1 = t.length := by have := HNN.out; omega
  rw [e5]; exact HR2.out
theorem next_yes_dsh (w0 : World) (b : Nat) (w : World) (pr : Int) (r : Rd) (anc arc : ByteArray) (x : ByteArray) (t : List ByteArray) (h : Ln w0 b w pr r anc arc (x :: t)) (hp : dsh x = true) :
    Calls Tryd.prog 32 #[.pointer (some ⟨b, 0, none⟩), .func (.func 29) #[] #[]] w fun e w' => e = .returned (.tuple #[.string x, .bool true]) ∧ Ln w0 b w' pr r anc arc t ∧ Kq b w w' := by
  obtain ⟨a, n, cap, h1, h2⟩ := h.box
  obtain ⟨b1, off, c3, e, hx⟩ := h1.tx (k := 0) rfl
  injection e with e1 e2 e3
  subst e1
  by_cases hc : cap = 1
  · exact next_yes1_dsh w0 b w pr r anc arc x t h hp b1 off n cap h1 h2 hc
  · exact next_yes2_dsh w0 b w pr r anc arc x t h hp b1 off n cap h1 h2 hc
set_option maxHeartbeats 1000000 in
theorem next_nil_anyW (w0 : World) (b : Nat) (w : World) (pr : Int) (r : Rd) (anc arc : ByteArray) (h : Ln w0 b w pr r anc arc []) :
    Calls Tryd.prog 32 #[.pointer (some ⟨b, 0, none⟩), .func (.func 34) #[] #[]] w fun e w' => e = .returned (.tuple #[.string ⟨#[]⟩, .bool false]) ∧ w' = w := by
  obtain ⟨a, n, cap, h1, h2⟩ := h.box
  obtain ⟨ao, c2, e, _⟩ := h1
  injection e with e1 e2 e3
  simp only [List.length_nil] at e2
  subst e2
  unfold lnRow at h2
  have c0 := cell_rowK h2 0 _ rfl
  clear h2 e1 e3
  go_enter Tryd.func32, Tryd.ntmps32
  go_wp2
  go_ret2
  exact ⟨rfl, rfl⟩
set_option maxHeartbeats 1000000 in
theorem next_yes1_anyW (w0 : World) (b : Nat) (w : World) (pr : Int) (r : Rd) (anc arc : ByteArray) (x : ByteArray) (t : List ByteArray) (h : Ln w0 b w pr r anc arc (x :: t)) (hp : anyW x = true) (b1 off n cap : Nat) (h1 : RowT w0 (.slice (some ⟨b1, off, none⟩) n cap) (x :: t)) (h2 : w.heap[b]? = some (.cells (lnRow (some ⟨b1, off, none⟩) n cap pr r anc arc) 43 (0, 0))) (hc : cap = 1) :
    Calls Tryd.prog 32 #[.pointer (some ⟨b, 0, none⟩), .func (.func 34) #[] #[]] w fun e w' => e = .returned (.tuple #[.string x, .bool true]) ∧ Ln w0 b w' pr r anc arc t ∧ Kq b w w' := by
  obtain ⟨hn, hnc, hcm, hx, hr1, hr2⟩ := rowT_tail h1
  have hx1 := cell_onG hx h.bel
  have HH := hidK h
  have HR2 := hidK hr2
  have HR1 := hidK (hr1 hc)
  have ht : t.length = 0 := by omega
  subst hc
  have hn1 : n = 1 := by omega
  subst hn1
  unfold lnRow at h2
  have c0 := cell_rowK h2 0 _ rfl
  have H := hidK (anyW_c x)
  rw [hp] at H
  clear hx h1 hr1 hr2 hn h hp
  go_enter Tryd.func32, Tryd.ntmps32
  go_wp2_with (first
    | (go_at_call 34; refine (H.out _).mono ?_; rintro e w1 ⟨rfl, hw1⟩; rw [hw1]; clear hw1)
    | (refine wpList_store_kz rfl rfl _ _ _ rfl b 0 (.slice (some ⟨b1, off, none⟩) 0 0) rfl rfl _ _ #[.slice (some ⟨b1, off, none⟩) 0 0, .int .i64 pr, .int .u8 ((opF r.op r.s).toNat : Int), .bool r.vb, .bool r.up, .bool r.qu, .bool r.det, .bool r.dat, .bool r.bare, .bool r.thin, .int .i64 r.kind, .int .i64 (whOf r.po), .string anc, .string arc, .slice none 0 0, .string (byB (poL r.po))] h2 (by kernel_rfl) rfl rfl rfl ?_; intro W1 S1 q1))
  go_ret2
  refine ⟨rfl, HH.out.turn q1 HH.out.ops ⟨_, _, _, ?_, S1⟩, q1⟩
  exact HR1.out
set_option maxHeartbeats 1000000 in
theorem next_yes2_anyW (w0 : World) (b : Nat) (w : World) (pr : Int) (r : Rd) (anc arc : ByteArray) (x : ByteArray) (t : List ByteArray) (h : Ln w0 b w pr r anc arc (x :: t)) (hp : anyW x = true) (b1 off n cap : Nat) (h1 : RowT w0 (.slice (some ⟨b1, off, none⟩) n cap) (x :: t)) (h2 : w.heap[b]? = some (.cells (lnRow (some ⟨b1, off, none⟩) n cap pr r anc arc) 43 (0, 0))) (hc : cap ≠ 1) :
    Calls Tryd.prog 32 #[.pointer (some ⟨b, 0, none⟩), .func (.func 34) #[] #[]] w fun e w' => e = .returned (.tuple #[.string x, .bool true]) ∧ Ln w0 b w' pr r anc arc t ∧ Kq b w w' := by
  obtain ⟨hn, hnc, hcm, hx, hr1, hr2⟩ := rowT_tail h1
  have hx1 := cell_onG hx h.bel
  have HH := hidK h
  have HR2 := hidK hr2
  obtain ⟨N, hN⟩ : ∃ N, N = t.length + 1 := ⟨_, rfl⟩
  have hn1 : n = N := by omega
  subst hn1
  have HNN := hidK hN
  have hz : ((n : Nat) : Int) ≠ 0 := by omega
  have h0 : (0 : Int) < (n : Int) := by omega
  have hz1 : n ≠ 0 := by omega
  have h11 : (1 : Int) ≤ (n : Int) := by omega
  have h12 : (n : Int) ≤ (cap : Int) := by omega
  unfold lnRow at h2
  have c0 := cell_rowK h2 0 _ rfl
  have H := hidK (anyW_c x)
  rw [hp] at H
  clear hx h1 hr1 hr2 hn h hp hN
  go_enter Tryd.func32, Tryd.ntmps32
  go_wp2_with (first
    | (go_at_call 34; refine (H.out _).mono ?_; rintro e w1 ⟨rfl, hw1⟩; rw [hw1]; clear hw1)
    | (refine wpList_store_kz rfl rfl _ _ _ rfl b 0 (.slice (some ⟨b1, off + 1, none⟩) (n - 1) (cap - 1)) rfl rfl _ _ #[.slice (some ⟨b1, off + 1, none⟩) (n - 1) (cap - 1), .int .i64 pr, .int .u8 ((opF r.op r.s).toNat : Int), .bool r.vb, .bool r.up, .bool r.qu, .bool r.det, .bool r.dat, .bool r.bare, .bool r.thin, .int .i64 r.kind, .int .i64 (whOf r.po), .string anc, .string arc, .slice none 0 0, .string (byB (poL r.po))] h2 (by kernel_rfl) rfl rfl rfl ?_; intro W1 S1 q1))
  go_ret2
  refine ⟨rfl, HH.out.turn q1 HH.out.ops ⟨_, _, _, ?_, S1⟩, q1⟩
  have e5 : n - 1 = t.length := by have := HNN.out; omega
  rw [e5]; exact HR2.out
theorem next_yes_anyW (w0 : World) (b : Nat) (w : World) (pr : Int) (r : Rd) (anc arc : ByteArray) (x : ByteArray) (t : List ByteArray) (h : Ln w0 b w pr r anc arc (x :: t)) (hp : anyW x = true) :
    Calls Tryd.prog 32 #[.pointer (some ⟨b, 0, none⟩), .func (.func 34) #[] #[]] w fun e w' => e = .returned (.tuple #[.string x, .bool true]) ∧ Ln w0 b w' pr r anc arc t ∧ Kq b w w' := by
  obtain ⟨a, n, cap, h1, h2⟩ := h.box
  obtain ⟨b1, off, c3, e, hx⟩ := h1.tx (k := 0) rfl
  injection e with e1 e2 e3
  subst e1
  by_cases hc : cap = 1
  · exact next_yes1_anyW w0 b w pr r anc arc x t h hp b1 off n cap h1 h2 hc
  · exact next_yes2_anyW w0 b w pr r anc arc x t h hp b1 off n cap h1 h2 hc
end Go.Proofs.YtmhamlhmmkbkaaaDoor
