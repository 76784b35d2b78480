
-- What each letter does with the line.
import Derived.Test.YtmhamlhmmkbkaaaDoorLN
namespace Go.Proofs.YtmhamlhmmkbkaaaDoor
open Go.ChangeShapes Go.WideShapes Go.ChangeAt Go.RowKit Go.MapKept Go.Shelf
set_option linter.unusedVariables false
set_option maxRecDepth 100000
set_option linter.unusedSimpArgs false
theorem opF_new (c : UInt8) (s : Bool) (h : c ≠ 0) : opF c s = c := by unfold opF; rw [if_neg fun q => h q.1]
theorem opF_s (s : Bool) (h : s = true) : opF 0 s = 115 := by unfold opF; rw [if_pos ⟨rfl, h⟩]
theorem opF_0 (s : Bool) (h : s = false) : opF 0 s = 0 := by unfold opF; rw [if_neg fun q => by rw [h] at q; exact absurd q.2 (by decide)]
theorem opF_put (op : UInt8) (h : op ≠ 0) (s : Bool) : opF op true = opF op s := by rw [opF_new op _ h, opF_new op _ h]
theorem u8ne {c : UInt8} {n : UInt8} (h : c ≠ n) : (((c.toNat : Int)) != (n.toNat : Int)) = true := by
  have := u8I h
  simp only [bne, this, Bool.not_false]
theorem poL_ne {p : UInt8} (h : p ≠ 0) : ((byB (poL p)).toList == []) = false ∧ (byB (poL p)).toList.isEmpty = false := by
  unfold poL
  rw [if_neg h, ByteArray.toList_eq]
  exact ⟨rfl, rfl⟩
theorem do_100 (w0 : World) (b : Nat) (w : World) (pr : Int) (r : Rd) (anc arc : ByteArray) (L : List ByteArray) (h : Ln w0 b w pr r anc arc L) : Calls Tryd.prog 42 #[.pointer (some ⟨b, 0, none⟩), .int .i32 100] w (ActPost w0 b w pr anc arc L (stB r 100)) := by
  obtain ⟨a, n, c, h1, h2⟩ := h.box
  have e : stB r 100 = (if r.op = 0 then .inr { r with op := 100 } else .inl 152) := rfl
  rw [e]
  by_cases h0 : r.op = 0
  · rw [if_pos h0]
    have hz : opF 100 r.s = 100 := opF_new 100 r.s (by decide)
    cases hs : r.s with
    | true =>
      have ho : opF r.op r.s = 115 := by rw [h0]; exact opF_s r.s hs
      unfold lnRow at h2
      rw [ho] at h2
      refine (lt_operates_100 b a n c pr 115 r.kind (whOf r.po) r.vb r.up r.qu r.det r.dat r.bare r.thin anc arc (byB (poL r.po)) none 0 0 w h2).mono ?_
      rintro e w' ⟨rfl, s1, k1⟩
      refine ⟨rfl, h.turn k1 (show (100 : UInt8) ≠ 115 from by decide) ⟨a, n, c, h1, ?_⟩, k1⟩
      unfold lnRow
      simp only [hz]
      exact s1
    | false =>
      have ho : opF r.op r.s = 0 := by rw [h0]; exact opF_0 r.s hs
      unfold lnRow at h2
      rw [ho] at h2
      refine (lt_operate_100 b a n c pr 0 r.kind (whOf r.po) r.vb r.up r.qu r.det r.dat r.bare r.thin anc arc (byB (poL r.po)) none 0 0 w h2).mono ?_
      rintro e w' ⟨rfl, s1, k1⟩
      refine ⟨rfl, h.turn k1 (show (100 : UInt8) ≠ 115 from by decide) ⟨a, n, c, h1, ?_⟩, k1⟩
      unfold lnRow
      simp only [hz]
      exact s1
  · rw [if_neg h0]
    have ho : opF r.op r.s = r.op := opF_new r.op r.s h0
    unfold lnRow at h2
    rw [ho] at h2
    refine (lt_operate2 b a n c pr (r.op.toNat : Int) r.kind (whOf r.po) r.vb r.up r.qu r.det r.dat r.bare r.thin anc arc (byB (poL r.po)) none 0 0 w 100 h2 (u8ne h0) (u8ne h.ops)).mono ?_
    rintro e w' ⟨rfl, hw⟩
    exact ⟨rfl, by decide, hw⟩
theorem do_109 (w0 : World) (b : Nat) (w : World) (pr : Int) (r : Rd) (anc arc : ByteArray) (L : List ByteArray) (h : Ln w0 b w pr r anc arc L) : Calls Tryd.prog 42 #[.pointer (some ⟨b, 0, none⟩), .int .i32 109] w (ActPost w0 b w pr anc arc L (stB r 109)) := by
  obtain ⟨a, n, c, h1, h2⟩ := h.box
  have e : stB r 109 = (if r.op = 0 then .inr { r with op := 109 } else .inl 152) := rfl
  rw [e]
  by_cases h0 : r.op = 0
  · rw [if_pos h0]
    have hz : opF 109 r.s = 109 := opF_new 109 r.s (by decide)
    cases hs : r.s with
    | true =>
      have ho : opF r.op r.s = 115 := by rw [h0]; exact opF_s r.s hs
      unfold lnRow at h2
      rw [ho] at h2
      refine (lt_operates_109 b a n c pr 115 r.kind (whOf r.po) r.vb r.up r.qu r.det r.dat r.bare r.thin anc arc (byB (poL r.po)) none 0 0 w h2).mono ?_
      rintro e w' ⟨rfl, s1, k1⟩
      refine ⟨rfl, h.turn k1 (show (109 : UInt8) ≠ 115 from by decide) ⟨a, n, c, h1, ?_⟩, k1⟩
      unfold lnRow
      simp only [hz]
      exact s1
    | false =>
      have ho : opF r.op r.s = 0 := by rw [h0]; exact opF_0 r.s hs
      unfold lnRow at h2
      rw [ho] at h2
      refine (lt_operate_109 b a n c pr 0 r.kind (whOf r.po) r.vb r.up r.qu r.det r.dat r.bare r.thin anc arc (byB (poL r.po)) none 0 0 w h2).mono ?_
      rintro e w' ⟨rfl, s1, k1⟩
      refine ⟨rfl, h.turn k1 (show (109 : UInt8) ≠ 115 from by decide) ⟨a, n, c, h1, ?_⟩, k1⟩
      unfold lnRow
      simp only [hz]
      exact s1
  · rw [if_neg h0]
    have ho : opF r.op r.s = r.op := opF_new r.op r.s h0
    unfold lnRow at h2
    rw [ho] at h2
    refine (lt_operate2 b a n c pr (r.op.toNat : Int) r.kind (whOf r.po) r.vb r.up r.qu r.det r.dat r.bare r.thin anc arc (byB (poL r.po)) none 0 0 w 109 h2 (u8ne h0) (u8ne h.ops)).mono ?_
    rintro e w' ⟨rfl, hw⟩
    exact ⟨rfl, by decide, hw⟩
theorem do_112 (w0 : World) (b : Nat) (w : World) (pr : Int) (r : Rd) (anc arc : ByteArray) (L : List ByteArray) (h : Ln w0 b w pr r anc arc L) : Calls Tryd.prog 42 #[.pointer (some ⟨b, 0, none⟩), .int .i32 112] w (ActPost w0 b w pr anc arc L (stB r 112)) := by
  obtain ⟨a, n, c, h1, h2⟩ := h.box
  have e : stB r 112 = (if r.op = 0 then .inr { r with op := 112 } else .inl 152) := rfl
  rw [e]
  by_cases h0 : r.op = 0
  · rw [if_pos h0]
    have hz : opF 112 r.s = 112 := opF_new 112 r.s (by decide)
    cases hs : r.s with
    | true =>
      have ho : opF r.op r.s = 115 := by rw [h0]; exact opF_s r.s hs
      unfold lnRow at h2
      rw [ho] at h2
      refine (lt_operates_112 b a n c pr 115 r.kind (whOf r.po) r.vb r.up r.qu r.det r.dat r.bare r.thin anc arc (byB (poL r.po)) none 0 0 w h2).mono ?_
      rintro e w' ⟨rfl, s1, k1⟩
      refine ⟨rfl, h.turn k1 (show (112 : UInt8) ≠ 115 from by decide) ⟨a, n, c, h1, ?_⟩, k1⟩
      unfold lnRow
      simp only [hz]
      exact s1
    | false =>
      have ho : opF r.op r.s = 0 := by rw [h0]; exact opF_0 r.s hs
      unfold lnRow at h2
      rw [ho] at h2
      refine (lt_operate_112 b a n c pr 0 r.kind (whOf r.po) r.vb r.up r.qu r.det r.dat r.bare r.thin anc arc (byB (poL r.po)) none 0 0 w h2).mono ?_
      rintro e w' ⟨rfl, s1, k1⟩
      refine ⟨rfl, h.turn k1 (show (112 : UInt8) ≠ 115 from by decide) ⟨a, n, c, h1, ?_⟩, k1⟩
      unfold lnRow
      simp only [hz]
      exact s1
  · rw [if_neg h0]
    have ho : opF r.op r.s = r.op := opF_new r.op r.s h0
    unfold lnRow at h2
    rw [ho] at h2
    refine (lt_operate2 b a n c pr (r.op.toNat : Int) r.kind (whOf r.po) r.vb r.up r.qu r.det r.dat r.bare r.thin anc arc (byB (poL r.po)) none 0 0 w 112 h2 (u8ne h0) (u8ne h.ops)).mono ?_
    rintro e w' ⟨rfl, hw⟩
    exact ⟨rfl, by decide, hw⟩
theorem do_113 (w0 : World) (b : Nat) (w : World) (pr : Int) (r : Rd) (anc arc : ByteArray) (L : List ByteArray) (h : Ln w0 b w pr r anc arc L) : Calls Tryd.prog 42 #[.pointer (some ⟨b, 0, none⟩), .int .i32 113] w (ActPost w0 b w pr anc arc L (stB r 113)) := by
  obtain ⟨a, n, c, h1, h2⟩ := h.box
  have e : stB r 113 = (if r.op = 0 then .inr { r with op := 113 } else .inl 152) := rfl
  rw [e]
  by_cases h0 : r.op = 0
  · rw [if_pos h0]
    have hz : opF 113 r.s = 113 := opF_new 113 r.s (by decide)
    cases hs : r.s with
    | true =>
      have ho : opF r.op r.s = 115 := by rw [h0]; exact opF_s r.s hs
      unfold lnRow at h2
      rw [ho] at h2
      refine (lt_operates_113 b a n c pr 115 r.kind (whOf r.po) r.vb r.up r.qu r.det r.dat r.bare r.thin anc arc (byB (poL r.po)) none 0 0 w h2).mono ?_
      rintro e w' ⟨rfl, s1, k1⟩
      refine ⟨rfl, h.turn k1 (show (113 : UInt8) ≠ 115 from by decide) ⟨a, n, c, h1, ?_⟩, k1⟩
      unfold lnRow
      simp only [hz]
      exact s1
    | false =>
      have ho : opF r.op r.s = 0 := by rw [h0]; exact opF_0 r.s hs
      unfold lnRow at h2
      rw [ho] at h2
      refine (lt_operate_113 b a n c pr 0 r.kind (whOf r.po) r.vb r.up r.qu r.det r.dat r.bare r.thin anc arc (byB (poL r.po)) none 0 0 w h2).mono ?_
      rintro e w' ⟨rfl, s1, k1⟩
      refine ⟨rfl, h.turn k1 (show (113 : UInt8) ≠ 115 from by decide) ⟨a, n, c, h1, ?_⟩, k1⟩
      unfold lnRow
      simp only [hz]
      exact s1
  · rw [if_neg h0]
    have ho : opF r.op r.s = r.op := opF_new r.op r.s h0
    unfold lnRow at h2
    rw [ho] at h2
    refine (lt_operate2 b a n c pr (r.op.toNat : Int) r.kind (whOf r.po) r.vb r.up r.qu r.det r.dat r.bare r.thin anc arc (byB (poL r.po)) none 0 0 w 113 h2 (u8ne h0) (u8ne h.ops)).mono ?_
    rintro e w' ⟨rfl, hw⟩
    exact ⟨rfl, by decide, hw⟩
theorem do_114 (w0 : World) (b : Nat) (w : World) (pr : Int) (r : Rd) (anc arc : ByteArray) (L : List ByteArray) (h : Ln w0 b w pr r anc arc L) : Calls Tryd.prog 42 #[.pointer (some ⟨b, 0, none⟩), .int .i32 114] w (ActPost w0 b w pr anc arc L (stB r 114)) := by
  obtain ⟨a, n, c, h1, h2⟩ := h.box
  have e : stB r 114 = (if r.op = 0 then .inr { r with op := 114 } else .inl 152) := rfl
  rw [e]
  by_cases h0 : r.op = 0
  · rw [if_pos h0]
    have hz : opF 114 r.s = 114 := opF_new 114 r.s (by decide)
    cases hs : r.s with
    | true =>
      have ho : opF r.op r.s = 115 := by rw [h0]; exact opF_s r.s hs
      unfold lnRow at h2
      rw [ho] at h2
      refine (lt_operates_114 b a n c pr 115 r.kind (whOf r.po) r.vb r.up r.qu r.det r.dat r.bare r.thin anc arc (byB (poL r.po)) none 0 0 w h2).mono ?_
      rintro e w' ⟨rfl, s1, k1⟩
      refine ⟨rfl, h.turn k1 (show (114 : UInt8) ≠ 115 from by decide) ⟨a, n, c, h1, ?_⟩, k1⟩
      unfold lnRow
      simp only [hz]
      exact s1
    | false =>
      have ho : opF r.op r.s = 0 := by rw [h0]; exact opF_0 r.s hs
      unfold lnRow at h2
      rw [ho] at h2
      refine (lt_operate_114 b a n c pr 0 r.kind (whOf r.po) r.vb r.up r.qu r.det r.dat r.bare r.thin anc arc (byB (poL r.po)) none 0 0 w h2).mono ?_
      rintro e w' ⟨rfl, s1, k1⟩
      refine ⟨rfl, h.turn k1 (show (114 : UInt8) ≠ 115 from by decide) ⟨a, n, c, h1, ?_⟩, k1⟩
      unfold lnRow
      simp only [hz]
      exact s1
  · rw [if_neg h0]
    have ho : opF r.op r.s = r.op := opF_new r.op r.s h0
    unfold lnRow at h2
    rw [ho] at h2
    refine (lt_operate2 b a n c pr (r.op.toNat : Int) r.kind (whOf r.po) r.vb r.up r.qu r.det r.dat r.bare r.thin anc arc (byB (poL r.po)) none 0 0 w 114 h2 (u8ne h0) (u8ne h.ops)).mono ?_
    rintro e w' ⟨rfl, hw⟩
    exact ⟨rfl, by decide, hw⟩
theorem do_116 (w0 : World) (b : Nat) (w : World) (pr : Int) (r : Rd) (anc arc : ByteArray) (L : List ByteArray) (h : Ln w0 b w pr r anc arc L) : Calls Tryd.prog 42 #[.pointer (some ⟨b, 0, none⟩), .int .i32 116] w (ActPost w0 b w pr anc arc L (stB r 116)) := by
  obtain ⟨a, n, c, h1, h2⟩ := h.box
  have e : stB r 116 = (if r.op = 0 then .inr { r with op := 116 } else .inl 152) := rfl
  rw [e]
  by_cases h0 : r.op = 0
  · rw [if_pos h0]
    have hz : opF 116 r.s = 116 := opF_new 116 r.s (by decide)
    cases hs : r.s with
    | true =>
      have ho : opF r.op r.s = 115 := by rw [h0]; exact opF_s r.s hs
      unfold lnRow at h2
      rw [ho] at h2
      refine (lt_operates_116 b a n c pr 115 r.kind (whOf r.po) r.vb r.up r.qu r.det r.dat r.bare r.thin anc arc (byB (poL r.po)) none 0 0 w h2).mono ?_
      rintro e w' ⟨rfl, s1, k1⟩
      refine ⟨rfl, h.turn k1 (show (116 : UInt8) ≠ 115 from by decide) ⟨a, n, c, h1, ?_⟩, k1⟩
      unfold lnRow
      simp only [hz]
      exact s1
    | false =>
      have ho : opF r.op r.s = 0 := by rw [h0]; exact opF_0 r.s hs
      unfold lnRow at h2
      rw [ho] at h2
      refine (lt_operate_116 b a n c pr 0 r.kind (whOf r.po) r.vb r.up r.qu r.det r.dat r.bare r.thin anc arc (byB (poL r.po)) none 0 0 w h2).mono ?_
      rintro e w' ⟨rfl, s1, k1⟩
      refine ⟨rfl, h.turn k1 (show (116 : UInt8) ≠ 115 from by decide) ⟨a, n, c, h1, ?_⟩, k1⟩
      unfold lnRow
      simp only [hz]
      exact s1
  · rw [if_neg h0]
    have ho : opF r.op r.s = r.op := opF_new r.op r.s h0
    unfold lnRow at h2
    rw [ho] at h2
    refine (lt_operate2 b a n c pr (r.op.toNat : Int) r.kind (whOf r.po) r.vb r.up r.qu r.det r.dat r.bare r.thin anc arc (byB (poL r.po)) none 0 0 w 116 h2 (u8ne h0) (u8ne h.ops)).mono ?_
    rintro e w' ⟨rfl, hw⟩
    exact ⟨rfl, by decide, hw⟩
theorem do_120 (w0 : World) (b : Nat) (w : World) (pr : Int) (r : Rd) (anc arc : ByteArray) (L : List ByteArray) (h : Ln w0 b w pr r anc arc L) : Calls Tryd.prog 42 #[.pointer (some ⟨b, 0, none⟩), .int .i32 120] w (ActPost w0 b w pr anc arc L (stB r 120)) := by
  obtain ⟨a, n, c, h1, h2⟩ := h.box
  have e : stB r 120 = (if r.op = 0 then .inr { r with op := 120 } else .inl 152) := rfl
  rw [e]
  by_cases h0 : r.op = 0
  · rw [if_pos h0]
    have hz : opF 120 r.s = 120 := opF_new 120 r.s (by decide)
    cases hs : r.s with
    | true =>
      have ho : opF r.op r.s = 115 := by rw [h0]; exact opF_s r.s hs
      unfold lnRow at h2
      rw [ho] at h2
      refine (lt_operates_120 b a n c pr 115 r.kind (whOf r.po) r.vb r.up r.qu r.det r.dat r.bare r.thin anc arc (byB (poL r.po)) none 0 0 w h2).mono ?_
      rintro e w' ⟨rfl, s1, k1⟩
      refine ⟨rfl, h.turn k1 (show (120 : UInt8) ≠ 115 from by decide) ⟨a, n, c, h1, ?_⟩, k1⟩
      unfold lnRow
      simp only [hz]
      exact s1
    | false =>
      have ho : opF r.op r.s = 0 := by rw [h0]; exact opF_0 r.s hs
      unfold lnRow at h2
      rw [ho] at h2
      refine (lt_operate_120 b a n c pr 0 r.kind (whOf r.po) r.vb r.up r.qu r.det r.dat r.bare r.thin anc arc (byB (poL r.po)) none 0 0 w h2).mono ?_
      rintro e w' ⟨rfl, s1, k1⟩
      refine ⟨rfl, h.turn k1 (show (120 : UInt8) ≠ 115 from by decide) ⟨a, n, c, h1, ?_⟩, k1⟩
      unfold lnRow
      simp only [hz]
      exact s1
  · rw [if_neg h0]
    have ho : opF r.op r.s = r.op := opF_new r.op r.s h0
    unfold lnRow at h2
    rw [ho] at h2
    refine (lt_operate2 b a n c pr (r.op.toNat : Int) r.kind (whOf r.po) r.vb r.up r.qu r.det r.dat r.bare r.thin anc arc (byB (poL r.po)) none 0 0 w 120 h2 (u8ne h0) (u8ne h.ops)).mono ?_
    rintro e w' ⟨rfl, hw⟩
    exact ⟨rfl, by decide, hw⟩
theorem do_115 (w0 : World) (b : Nat) (w : World) (pr : Int) (r : Rd) (anc arc : ByteArray) (L : List ByteArray) (h : Ln w0 b w pr r anc arc L) : Calls Tryd.prog 43 #[.pointer (some ⟨b, 0, none⟩), .int .i32 115] w (ActPost w0 b w pr anc arc L (stB r 115)) := by
  obtain ⟨a, n, c, h1, h2⟩ := h.box
  have e : stB r 115 = .inr { r with s := true } := rfl
  rw [e]
  by_cases h0 : r.op = 0
  · cases hs : r.s with
    | true =>
      have ho : opF r.op r.s = 115 := by rw [h0]; exact opF_s r.s hs
      unfold lnRow at h2
      rw [ho] at h2
      refine (lt_index2 b a n c pr 115 r.kind (whOf r.po) r.vb r.up r.qu r.det r.dat r.bare r.thin anc arc (byB (poL r.po)) none 0 0 w 115 h2 (by decide)).mono ?_
      rintro e w' ⟨rfl, hw⟩
      rw [hw]
      refine ⟨rfl, h.turn (Kq.id _ _) h.ops ⟨a, n, c, h1, ?_⟩, Kq.id _ _⟩
      unfold lnRow
      have hz : opF r.op true = 115 := by rw [h0]; rfl
      simp only [hz]
      exact h2
    | false =>
      have ho : opF r.op r.s = 0 := by rw [h0]; exact opF_0 r.s hs
      unfold lnRow at h2
      rw [ho] at h2
      refine (lt_index b a n c pr 0 r.kind (whOf r.po) r.vb r.up r.qu r.det r.dat r.bare r.thin anc arc (byB (poL r.po)) none 0 0 w 115 h2).mono ?_
      rintro e w' ⟨rfl, s1, k1⟩
      refine ⟨rfl, h.turn k1 h.ops ⟨a, n, c, h1, ?_⟩, k1⟩
      unfold lnRow
      have hz : opF r.op true = 115 := by rw [h0]; rfl
      simp only [hz]
      exact s1
  · have ho : opF r.op r.s = r.op := opF_new r.op r.s h0
    unfold lnRow at h2
    rw [ho] at h2
    refine (lt_index2 b a n c pr (r.op.toNat : Int) r.kind (whOf r.po) r.vb r.up r.qu r.det r.dat r.bare r.thin anc arc (byB (poL r.po)) none 0 0 w 115 h2 (u8I h0)).mono ?_
    rintro e w' ⟨rfl, hw⟩
    rw [hw]
    refine ⟨rfl, h.turn (Kq.id _ _) h.ops ⟨a, n, c, h1, ?_⟩, Kq.id _ _⟩
    unfold lnRow
    have hz : opF r.op true = r.op := opF_new r.op _ h0
    simp only [hz]
    exact h2
theorem do_97 (w0 : World) (b : Nat) (w : World) (pr : Int) (r : Rd) (anc arc : ByteArray) (L : List ByteArray) (h : Ln w0 b w pr r anc arc L) : Calls Tryd.prog 44 #[.pointer (some ⟨b, 0, none⟩), .int .i32 97] w (ActPost w0 b w pr anc arc L (stB r 97)) := by
  obtain ⟨a, n, c, h1, h2⟩ := h.box
  have e : stB r 97 = (if r.po = 0 then .inr { r with po := 97 } else .inl 155) := rfl
  rw [e]
  by_cases h0 : r.po = 0
  · rw [if_pos h0]
    have ho : byB (poL r.po) = ⟨#[]⟩ := by rw [h0]; rfl
    unfold lnRow at h2
    rw [ho] at h2
    refine (lt_place_97 b a n c pr ((opF r.op r.s).toNat : Int) r.kind (whOf r.po) r.vb r.up r.qu r.det r.dat r.bare r.thin anc arc ⟨#[]⟩ none 0 0 w h2).mono ?_
    rintro e w' ⟨rfl, s1, k1⟩
    exact ⟨rfl, h.turn k1 h.ops ⟨a, n, c, h1, s1⟩, k1⟩
  · rw [if_neg h0]
    refine (lt_place2 b a n c pr ((opF r.op r.s).toNat : Int) r.kind (whOf r.po) r.vb r.up r.qu r.det r.dat r.bare r.thin anc arc (byB (poL r.po)) none 0 0 w 97 h2 (poL_ne h0).1 (poL_ne h0).2).mono ?_
    rintro e w' ⟨rfl, hw⟩
    exact ⟨rfl, by decide, hw⟩
theorem do_98 (w0 : World) (b : Nat) (w : World) (pr : Int) (r : Rd) (anc arc : ByteArray) (L : List ByteArray) (h : Ln w0 b w pr r anc arc L) : Calls Tryd.prog 44 #[.pointer (some ⟨b, 0, none⟩), .int .i32 98] w (ActPost w0 b w pr anc arc L (stB r 98)) := by
  obtain ⟨a, n, c, h1, h2⟩ := h.box
  have e : stB r 98 = (if r.po = 0 then .inr { r with po := 98 } else .inl 155) := rfl
  rw [e]
  by_cases h0 : r.po = 0
  · rw [if_pos h0]
    have ho : byB (poL r.po) = ⟨#[]⟩ := by rw [h0]; rfl
    unfold lnRow at h2
    rw [ho] at h2
    refine (lt_place_98 b a n c pr ((opF r.op r.s).toNat : Int) r.kind (whOf r.po) r.vb r.up r.qu r.det r.dat r.bare r.thin anc arc ⟨#[]⟩ none 0 0 w h2).mono ?_
    rintro e w' ⟨rfl, s1, k1⟩
    exact ⟨rfl, h.turn k1 h.ops ⟨a, n, c, h1, s1⟩, k1⟩
  · rw [if_neg h0]
    refine (lt_place2 b a n c pr ((opF r.op r.s).toNat : Int) r.kind (whOf r.po) r.vb r.up r.qu r.det r.dat r.bare r.thin anc arc (byB (poL r.po)) none 0 0 w 98 h2 (poL_ne h0).1 (poL_ne h0).2).mono ?_
    rintro e w' ⟨rfl, hw⟩
    exact ⟨rfl, by decide, hw⟩
theorem do_105 (w0 : World) (b : Nat) (w : World) (pr : Int) (r : Rd) (anc arc : ByteArray) (L : List ByteArray) (h : Ln w0 b w pr r anc arc L) : Calls Tryd.prog 44 #[.pointer (some ⟨b, 0, none⟩), .int .i32 105] w (ActPost w0 b w pr anc arc L (stB r 105)) := by
  obtain ⟨a, n, c, h1, h2⟩ := h.box
  have e : stB r 105 = (if r.po = 0 then .inr { r with po := 105 } else .inl 155) := rfl
  rw [e]
  by_cases h0 : r.po = 0
  · rw [if_pos h0]
    have ho : byB (poL r.po) = ⟨#[]⟩ := by rw [h0]; rfl
    unfold lnRow at h2
    rw [ho] at h2
    refine (lt_place_105 b a n c pr ((opF r.op r.s).toNat : Int) r.kind (whOf r.po) r.vb r.up r.qu r.det r.dat r.bare r.thin anc arc ⟨#[]⟩ none 0 0 w h2).mono ?_
    rintro e w' ⟨rfl, s1, k1⟩
    exact ⟨rfl, h.turn k1 h.ops ⟨a, n, c, h1, s1⟩, k1⟩
  · rw [if_neg h0]
    refine (lt_place2 b a n c pr ((opF r.op r.s).toNat : Int) r.kind (whOf r.po) r.vb r.up r.qu r.det r.dat r.bare r.thin anc arc (byB (poL r.po)) none 0 0 w 105 h2 (poL_ne h0).1 (poL_ne h0).2).mono ?_
    rintro e w' ⟨rfl, hw⟩
    exact ⟨rfl, by decide, hw⟩
theorem do_99 (w0 : World) (b : Nat) (w : World) (pr : Int) (r : Rd) (anc arc : ByteArray) (L : List ByteArray) (h : Ln w0 b w pr r anc arc L) : Calls Tryd.prog 45 #[.pointer (some ⟨b, 0, none⟩), .int .i32 99] w (ActPost w0 b w pr anc arc L (stB r 99)) := by
  obtain ⟨a, n, c, h1, h2⟩ := h.box
  have e : stB r 99 = .inr { r with qu := true } := rfl
  rw [e]
  refine (lt_quiet b a n c pr ((opF r.op r.s).toNat : Int) r.kind (whOf r.po) r.vb r.up r.qu r.det r.dat r.bare r.thin anc arc (byB (poL r.po)) none 0 0 w 99 h2).mono ?_
  rintro e w' ⟨rfl, s1, k1⟩
  exact ⟨rfl, h.turn k1 h.ops ⟨a, n, c, h1, s1⟩, k1⟩
theorem do_68 (w0 : World) (b : Nat) (w : World) (pr : Int) (r : Rd) (anc arc : ByteArray) (L : List ByteArray) (h : Ln w0 b w pr r anc arc L) : Calls Tryd.prog 39 #[.pointer (some ⟨b, 0, none⟩), .int .i32 68] w (ActPost w0 b w pr anc arc L (stB r 68)) := by
  obtain ⟨a, n, c, h1, h2⟩ := h.box
  have e : stB r 68 = .inr { r with det := true } := rfl
  rw [e]
  refine (lt_deterministic b a n c pr ((opF r.op r.s).toNat : Int) r.kind (whOf r.po) r.vb r.up r.qu r.det r.dat r.bare r.thin anc arc (byB (poL r.po)) none 0 0 w 68 h2).mono ?_
  rintro e w' ⟨rfl, s1, k1⟩
  exact ⟨rfl, h.turn k1 h.ops ⟨a, n, c, h1, s1⟩, k1⟩
theorem do_111 (w0 : World) (b : Nat) (w : World) (pr : Int) (r : Rd) (anc arc : ByteArray) (L : List ByteArray) (h : Ln w0 b w pr r anc arc L) : Calls Tryd.prog 46 #[.pointer (some ⟨b, 0, none⟩), .int .i32 111] w (ActPost w0 b w pr anc arc L (stB r 111)) := by
  obtain ⟨a, n, c, h1, h2⟩ := h.box
  have e : stB r 111 = .inr { r with dat := true } := rfl
  rw [e]
  refine (lt_dates b a n c pr ((opF r.op r.s).toNat : Int) r.kind (whOf r.po) r.vb r.up r.qu r.det r.dat r.bare r.thin anc arc (byB (poL r.po)) none 0 0 w 111 h2).mono ?_
  rintro e w' ⟨rfl, s1, k1⟩
  exact ⟨rfl, h.turn k1 h.ops ⟨a, n, c, h1, s1⟩, k1⟩
theorem do_83 (w0 : World) (b : Nat) (w : World) (pr : Int) (r : Rd) (anc arc : ByteArray) (L : List ByteArray) (h : Ln w0 b w pr r anc arc L) : Calls Tryd.prog 47 #[.pointer (some ⟨b, 0, none⟩), .int .i32 83] w (ActPost w0 b w pr anc arc L (stB r 83)) := by
  obtain ⟨a, n, c, h1, h2⟩ := h.box
  have e : stB r 83 = .inr { r with bare := true } := rfl
  rw [e]
  refine (lt_bare b a n c pr ((opF r.op r.s).toNat : Int) r.kind (whOf r.po) r.vb r.up r.qu r.det r.dat r.bare r.thin anc arc (byB (poL r.po)) none 0 0 w 83 h2).mono ?_
  rintro e w' ⟨rfl, s1, k1⟩
  exact ⟨rfl, h.turn k1 h.ops ⟨a, n, c, h1, s1⟩, k1⟩
theorem do_84 (w0 : World) (b : Nat) (w : World) (pr : Int) (r : Rd) (anc arc : ByteArray) (L : List ByteArray) (h : Ln w0 b w pr r anc arc L) : Calls Tryd.prog 48 #[.pointer (some ⟨b, 0, none⟩), .int .i32 84] w (ActPost w0 b w pr anc arc L (stB r 84)) := by
  obtain ⟨a, n, c, h1, h2⟩ := h.box
  have e : stB r 84 = .inr { r with thin := true } := rfl
  rw [e]
  refine (lt_thin b a n c pr ((opF r.op r.s).toNat : Int) r.kind (whOf r.po) r.vb r.up r.qu r.det r.dat r.bare r.thin anc arc (byB (poL r.po)) none 0 0 w 84 h2).mono ?_
  rintro e w' ⟨rfl, s1, k1⟩
  exact ⟨rfl, h.turn k1 h.ops ⟨a, n, c, h1, s1⟩, k1⟩
theorem do_117 (w0 : World) (b : Nat) (w : World) (pr : Int) (r : Rd) (anc arc : ByteArray) (L : List ByteArray) (h : Ln w0 b w pr r anc arc L) : Calls Tryd.prog 49 #[.pointer (some ⟨b, 0, none⟩), .int .i32 117] w (ActPost w0 b w pr anc arc L (stB r 117)) := by
  obtain ⟨a, n, c, h1, h2⟩ := h.box
  have e : stB r 117 = .inr { r with up := true } := rfl
  rw [e]
  refine (lt_update b a n c pr ((opF r.op r.s).toNat : Int) r.kind (whOf r.po) r.vb r.up r.qu r.det r.dat r.bare r.thin anc arc (byB (poL r.po)) none 0 0 w 117 h2).mono ?_
  rintro e w' ⟨rfl, s1, k1⟩
  exact ⟨rfl, h.turn k1 h.ops ⟨a, n, c, h1, s1⟩, k1⟩
theorem do_118 (w0 : World) (b : Nat) (w : World) (pr : Int) (r : Rd) (anc arc : ByteArray) (L : List ByteArray) (h : Ln w0 b w pr r anc arc L) : Calls Tryd.prog 50 #[.pointer (some ⟨b, 0, none⟩), .int .i32 118] w (ActPost w0 b w pr anc arc L (stB r 118)) := by
  obtain ⟨a, n, c, h1, h2⟩ := h.box
  have e : stB r 118 = .inr { r with vb := true } := rfl
  rw [e]
  refine (lt_verbose b a n c pr ((opF r.op r.s).toNat : Int) r.kind (whOf r.po) r.vb r.up r.qu r.det r.dat r.bare r.thin anc arc (byB (poL r.po)) none 0 0 w 118 h2).mono ?_
  rintro e w' ⟨rfl, s1, k1⟩
  exact ⟨rfl, h.turn k1 h.ops ⟨a, n, c, h1, s1⟩, k1⟩
theorem do_108 (w0 : World) (b : Nat) (w : World) (pr : Int) (r : Rd) (anc arc : ByteArray) (L : List ByteArray) (h : Ln w0 b w pr r anc arc L) : Calls Tryd.prog 51 #[.pointer (some ⟨b, 0, none⟩), .int .i32 108] w (ActPost w0 b w pr anc arc L (stB r 108)) := by
  obtain ⟨a, n, c, h1, h2⟩ := h.box
  have e : stB r 108 = .inr r := rfl
  rw [e]
  refine (lt_ignore b w 108).mono ?_
  rintro e w' ⟨rfl, hw⟩
  rw [hw]
  exact ⟨rfl, h, Kq.id _ _⟩
theorem stB_no {r : Rd} {c : UInt8} (h100 : c ≠ 100) (h109 : c ≠ 109) (h112 : c ≠ 112) (h113 : c ≠ 113) (h114 : c ≠ 114) (h116 : c ≠ 116) (h120 : c ≠ 120) (h115 : c ≠ 115) (h97 : c ≠ 97) (h98 : c ≠ 98) (h105 : c ≠ 105) (h99 : c ≠ 99) (h68 : c ≠ 68) (h111 : c ≠ 111) (h83 : c ≠ 83) (h84 : c ≠ 84) (h117 : c ≠ 117) (h118 : c ≠ 118) (h108 : c ≠ 108) : stB r c = .inl 153 := by
  have g1 : isOp c = false := by unfold isOp; simp [*]
  have g2 : isPo c = false := by unfold isPo; simp [*]
  unfold stB
  simp [g1, g2, *]
theorem chr_ne {c n : UInt8} (h : c ≠ n) : (Value.int .i32 (n.toNat : Int)) ≠ Value.int .i32 (c.toNat : Int) := by
  intro q
  injection q with _ q
  exact h (UInt8.toNat_inj.1 (Int.ofNat_inj.1 q.symm))
set_option maxHeartbeats 4000000 in
theorem act_ar : ActOk stB arP := by
  refine ⟨?_, ?_, ?_⟩
  · intro p hp
    simp only [arP, List.mem_cons, List.not_mem_nil, or_false] at hp
    rcases hp with rfl | rfl | rfl | rfl | rfl | rfl | rfl | rfl | rfl | rfl | rfl | rfl | rfl | rfl | rfl | rfl | rfl | rfl | rfl
    · exact ⟨108, by decide, rfl⟩
    · exact ⟨118, by decide, rfl⟩
    · exact ⟨117, by decide, rfl⟩
    · exact ⟨84, by decide, rfl⟩
    · exact ⟨83, by decide, rfl⟩
    · exact ⟨111, by decide, rfl⟩
    · exact ⟨68, by decide, rfl⟩
    · exact ⟨99, by decide, rfl⟩
    · exact ⟨105, by decide, rfl⟩
    · exact ⟨98, by decide, rfl⟩
    · exact ⟨97, by decide, rfl⟩
    · exact ⟨115, by decide, rfl⟩
    · exact ⟨120, by decide, rfl⟩
    · exact ⟨116, by decide, rfl⟩
    · exact ⟨114, by decide, rfl⟩
    · exact ⟨113, by decide, rfl⟩
    · exact ⟨112, by decide, rfl⟩
    · exact ⟨109, by decide, rfl⟩
    · exact ⟨100, by decide, rfl⟩
  · intro r c hc
    refine stB_no ?_ ?_ ?_ ?_ ?_ ?_ ?_ ?_ ?_ ?_ ?_ ?_ ?_ ?_ ?_ ?_ ?_ ?_ ?_ <;> (intro q; subst q; revert hc; decide)
  · intro c hc
    by_cases h100 : c = 100
    · subst h100
      exact .inl ⟨42, by simp [arP], enters_of Tryd.func42 (by kernel_rfl) rfl, do_100⟩
    by_cases h109 : c = 109
    · subst h109
      exact .inl ⟨42, by simp [arP], enters_of Tryd.func42 (by kernel_rfl) rfl, do_109⟩
    by_cases h112 : c = 112
    · subst h112
      exact .inl ⟨42, by simp [arP], enters_of Tryd.func42 (by kernel_rfl) rfl, do_112⟩
    by_cases h113 : c = 113
    · subst h113
      exact .inl ⟨42, by simp [arP], enters_of Tryd.func42 (by kernel_rfl) rfl, do_113⟩
    by_cases h114 : c = 114
    · subst h114
      exact .inl ⟨42, by simp [arP], enters_of Tryd.func42 (by kernel_rfl) rfl, do_114⟩
    by_cases h116 : c = 116
    · subst h116
      exact .inl ⟨42, by simp [arP], enters_of Tryd.func42 (by kernel_rfl) rfl, do_116⟩
    by_cases h120 : c = 120
    · subst h120
      exact .inl ⟨42, by simp [arP], enters_of Tryd.func42 (by kernel_rfl) rfl, do_120⟩
    by_cases h115 : c = 115
    · subst h115
      exact .inl ⟨43, by simp [arP], enters_of Tryd.func43 (by kernel_rfl) rfl, do_115⟩
    by_cases h97 : c = 97
    · subst h97
      exact .inl ⟨44, by simp [arP], enters_of Tryd.func44 (by kernel_rfl) rfl, do_97⟩
    by_cases h98 : c = 98
    · subst h98
      exact .inl ⟨44, by simp [arP], enters_of Tryd.func44 (by kernel_rfl) rfl, do_98⟩
    by_cases h105 : c = 105
    · subst h105
      exact .inl ⟨44, by simp [arP], enters_of Tryd.func44 (by kernel_rfl) rfl, do_105⟩
    by_cases h99 : c = 99
    · subst h99
      exact .inl ⟨45, by simp [arP], enters_of Tryd.func45 (by kernel_rfl) rfl, do_99⟩
    by_cases h68 : c = 68
    · subst h68
      exact .inl ⟨39, by simp [arP], enters_of Tryd.func39 (by kernel_rfl) rfl, do_68⟩
    by_cases h111 : c = 111
    · subst h111
      exact .inl ⟨46, by simp [arP], enters_of Tryd.func46 (by kernel_rfl) rfl, do_111⟩
    by_cases h83 : c = 83
    · subst h83
      exact .inl ⟨47, by simp [arP], enters_of Tryd.func47 (by kernel_rfl) rfl, do_83⟩
    by_cases h84 : c = 84
    · subst h84
      exact .inl ⟨48, by simp [arP], enters_of Tryd.func48 (by kernel_rfl) rfl, do_84⟩
    by_cases h117 : c = 117
    · subst h117
      exact .inl ⟨49, by simp [arP], enters_of Tryd.func49 (by kernel_rfl) rfl, do_117⟩
    by_cases h118 : c = 118
    · subst h118
      exact .inl ⟨50, by simp [arP], enters_of Tryd.func50 (by kernel_rfl) rfl, do_118⟩
    by_cases h108 : c = 108
    · subst h108
      exact .inl ⟨51, by simp [arP], enters_of Tryd.func51 (by kernel_rfl) rfl, do_108⟩
    refine .inr ⟨?_, fun r => stB_no h100 h109 h112 h113 h114 h116 h120 h115 h97 h98 h105 h99 h68 h111 h83 h84 h117 h118 h108⟩
    intro p hp
    simp only [arP, List.mem_cons, List.not_mem_nil, or_false] at hp
    rcases hp with rfl | rfl | rfl | rfl | rfl | rfl | rfl | rfl | rfl | rfl | rfl | rfl | rfl | rfl | rfl | rfl | rfl | rfl | rfl
    · exact chr_ne h108
    · exact chr_ne h118
    · exact chr_ne h117
    · exact chr_ne h84
    · exact chr_ne h83
    · exact chr_ne h111
    · exact chr_ne h68
    · exact chr_ne h99
    · exact chr_ne h105
    · exact chr_ne h98
    · exact chr_ne h97
    · exact chr_ne h115
    · exact chr_ne h120
    · exact chr_ne h116
    · exact chr_ne h114
    · exact chr_ne h113
    · exact chr_ne h112
    · exact chr_ne h109
    · exact chr_ne h100
/-- ranlib's letter -/
def stR (r : Rd) (c : UInt8) : Sum Int Rd := if c = 68 then .inr { r with det := true } else .inl 153
theorem act_ran : ActOk stR ranP := by
  refine ⟨?_, ?_, ?_⟩
  · intro p hp
    simp only [ranP, List.mem_cons, List.not_mem_nil, or_false] at hp
    subst hp
    exact ⟨68, by decide, rfl⟩
  · intro r c hc
    unfold stR
    rw [if_neg]
    intro q; subst q; revert hc; decide
  · intro c hc
    by_cases h68 : c = 68
    · subst h68
      exact .inl ⟨39, by simp [ranP], enters_of Tryd.func39 (by kernel_rfl) rfl, do_68⟩
    refine .inr ⟨?_, fun r => by unfold stR; rw [if_neg h68]⟩
    intro p hp
    simp only [ranP, List.mem_cons, List.not_mem_nil, or_false] at hp
    subst hp
    exact chr_ne h68
end Go.Proofs.YtmhamlhmmkbkaaaDoor
