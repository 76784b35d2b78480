
-- readOptions: the long options.
import Derived.Test.YtmhamlhmmkbkaaaDoorNX
namespace Go.Proofs.YtmhamlhmmkbkaaaDoor
open Go.ChangeShapes Go.WideShapes Go.ChangeAt Go.RowKit Go.MapKept Go.Shelf
set_option linter.unusedVariables false
set_option maxRecDepth 100000
set_option linter.unusedSimpArgs false
def lenOf (w : World) (b : Nat) : Nat := match w.cell? ⟨b, 0, none⟩ with
  | some (.slice _ n _) => n
  | _ => 0
theorem Ln.len {w0 : World} {b : Nat} {w : World} {pr : Int} {r : Rd} {anc arc : ByteArray} {L : List ByteArray} (h : Ln w0 b w pr r anc arc L) : lenOf w b = L.length := by
  obtain ⟨a, n, c, h1, h2⟩ := h.box
  obtain ⟨ao, cp, e, _⟩ := h1
  injection e with e1 e2 e3
  have h3 := cell_rowK h2 0 _ rfl
  unfold lenOf
  rw [h3]
  exact e2
def okN (v : Value) : Nat := match v with
  | .bool true => 1
  | _ => 0
def OptSt (w0 : World) (b : Nat) (pr : Int) (anc arc : ByteArray) (O : Sum ByteArray (Rd × List ByteArray)) (s : ByteArray) (t : Bool) (w : World) : Prop :=
  ∃ r1 L1, Ln w0 b w pr r1 anc arc L1 ∧ ((t = false ∧ O = .inr (r1, L1)) ∨ (t = true ∧ isLong s = true ∧ O = optR r1 (s :: L1)))
theorem next_opt (O : Sum ByteArray (Rd × List ByteArray)) (w0 : World) (b : Nat) (w : World) (pr : Int) (r : Rd) (anc arc : ByteArray) (L : List ByteArray) (h : Ln w0 b w pr r anc arc L) (hO : O = optR r L) :
    Calls Tryd.prog 32 #[.pointer (some ⟨b, 0, none⟩), .func (.func 33) #[] #[]] w fun e w' => ∃ s t, e = .returned (.tuple #[.string s, .bool t]) ∧ OptSt w0 b pr anc arc O s t w' ∧ Kq b w w' ∧ lenOf w' b + okN (.bool t) ≤ L.length := by
  cases L with
  | nil =>
    refine (next_nil_isLong w0 b w pr r anc arc h).mono ?_
    rintro e w' ⟨rfl, hw⟩
    rw [hw]
    exact ⟨_, _, rfl, ⟨r, [], h, .inl ⟨rfl, hO⟩⟩, Kq.id _ _, by rw [h.len]; exact Nat.le_refl _⟩
  | cons x t =>
    cases hp : isLong x with
    | false =>
      refine (next_no_isLong w0 b w pr r anc arc x t h hp).mono ?_
      rintro e w' ⟨rfl, hw⟩
      rw [hw]
      refine ⟨_, _, rfl, ⟨r, x :: t, h, .inl ⟨rfl, ?_⟩⟩, Kq.id _ _, by rw [h.len]; exact Nat.le_refl _⟩
      rw [hO]; unfold optR; rw [hp]; rfl
    | true =>
      refine (next_yes_isLong w0 b w pr r anc arc x t h hp).mono ?_
      rintro e w' ⟨rfl, l1, k1⟩
      exact ⟨_, _, rfl, ⟨r, t, l1, .inr ⟨rfl, hp, hO⟩⟩, k1, by rw [l1.len]; exact Nat.le_refl _⟩
def OpPost (w0 : World) (b : Nat) (w : World) (pr : Int) (anc arc : ByteArray) (s : Sum ByteArray (Rd × List ByteArray)) (e : Ending) (w' : World) : Prop := match s with
  | .inl x => e = .returned (.tuple #[.string x, .int .i64 154]) ∧ Below w0.heap.size w0 w'
  | .inr q => e = .returned (.tuple #[.string ⟨#[]⟩, .int .i64 0]) ∧ Ln w0 b w' pr q.1 anc arc q.2 ∧ Kq b w w'
theorem beqW {x y : ByteArray} {l : List UInt8} (h : x ≠ y) (e : y.data.toList = l) : (x.toList == l) = false := by
  have := strNe h
  rwa [ByteArray.toList_eq y, e] at this
theorem optR_yes (r : Rd) (s : ByteArray) (t : List ByteArray) (h : isLong s = true) : optR r (s :: t) = match optW r s with
    | some r' => optR r' t
    | none => .inl s := by
  rw [optR.eq_2, if_pos h]
  cases optW r s <;> rfl
set_option maxHeartbeats 4000000 in
theorem options_c (w0 : World) (b : Nat) (w : World) (pr : Int) (r : Rd) (anc arc : ByteArray) (L : List ByteArray) (h : Ln w0 b w pr r anc arc L) :
    Calls Tryd.prog 21 #[.pointer (some ⟨b, 0, none⟩)] w (OpPost w0 b w pr anc arc (optR r L)) := by
  obtain ⟨O, hO⟩ : ∃ O, O = optR r L := ⟨_, rfl⟩
  rw [← hO]
  have H0 := hidK (next_opt O w0 b w pr r anc arc L h hO)
  have HBE := hidK h.bel
  have HLO := hidK h.lo
  clear hO h
  go_enter Tryd.func21, Tryd.ntmps21
  go_wp2_with (go_at_call 32; refine H0.out.mono ?_; rintro e w1 ⟨s1, t1, rfl, hst1, k1, _⟩)
  go_loopw [4, 5] (fun vs vt wx => ∃ s t, vs = .string s ∧ vt = .bool t ∧ OptSt w0 b pr anc arc O s t wx ∧ Kq b w wx) (fun vs vt wx => lenOf wx b + okN vt)
  case atStart => exact ⟨s1, t1, rfl, rfl, hst1, k1⟩
  case round =>
    clear H0 hst1 k1
    obtain ⟨s, t, rfl, rfl, ⟨r1, L1, hln, hor⟩, hkq⟩ := hrel
    have HLN := hidK hln
    have HLE := hidK hln.len
    rcases hor with ⟨rfl, ho⟩ | ⟨rfl, hlo, ho⟩
    · have HO := hidK ho
      clear ho hln
      go_wp2
      go_ret2
      rw [HO.out]
      exact ⟨rfl, HLN.out, hkq⟩
    · obtain ⟨a, n, c, g1, g2⟩ := hln.box
      have HG := hidK g1
      unfold lnRow at g2
      have ho2 := ho
      rw [optR_yes r1 s L1 hlo] at ho2
      clear hln g1 hlo ho
      have HNX : Hid (∀ r2 W, Ln w0 b W pr r2 anc arc L1 → O = optR r2 L1 → Calls Tryd.prog 32 #[.pointer (some ⟨b, 0, none⟩), .func (.func 33) #[] #[]] W fun e w' => ∃ s t, e = .returned (.tuple #[.string s, .bool t]) ∧ OptSt w0 b pr anc arc O s t w' ∧ Kq b W w' ∧ lenOf w' b + okN (.bool t) ≤ L1.length) := fun r2 W h1 h2 => next_opt O w0 b W pr r2 anc arc L1 h1 h2
      by_cases hg : s = wGnu
      · rw [hg] at ho2 ⊢
        have HO : Hid (O = optR { r1 with kind := 0 } L1) := ho2
        unfold wGnu
        clear ho2 hg
        go_wp2_with (first
          | (refine wpList_store_kz rfl rfl _ _ _ rfl b 10 (.int .i64 0) rfl rfl _ _ #[.slice a n c, .int .i64 pr, .int .u8 ((opF r1.op r1.s).toNat : Int), .bool r1.vb, .bool r1.up, .bool r1.qu, .bool r1.det, .bool r1.dat, .bool r1.bare, .bool r1.thin, .int .i64 0, .int .i64 (whOf r1.po), .string anc, .string arc, .slice none 0 0, .string (byB (poL r1.po))] g2 (by kernel_rfl) rfl rfl rfl ?_; intro W1 S1 q1; have l2 := HLN.out.turn (r' := { r1 with kind := 0 }) q1 HLN.out.ops ⟨_, _, _, HG.out, S1⟩)
          | (go_at_call 32; refine (HNX.out _ _ l2 HO.out).mono ?_; rintro e w2 ⟨s2, t2, rfl, hst2, k2, hle⟩))
        go_roundw
        case rel => exact ⟨s2, t2, rfl, rfl, hst2, (hkq.two q1).two k2⟩
        case measure => have := HLE.out; rw [this]; simp only [okN] at hle ⊢; omega
      · by_cases hb2 : s = wBsd
        · rw [hb2] at ho2 ⊢
          have HO : Hid (O = optR { r1 with kind := 2 } L1) := ho2
          unfold wBsd
          clear ho2 hg hb2
          go_wp2_with (first
            | (refine wpList_store_kz rfl rfl _ _ _ rfl b 10 (.int .i64 2) rfl rfl _ _ #[.slice a n c, .int .i64 pr, .int .u8 ((opF r1.op r1.s).toNat : Int), .bool r1.vb, .bool r1.up, .bool r1.qu, .bool r1.det, .bool r1.dat, .bool r1.bare, .bool r1.thin, .int .i64 2, .int .i64 (whOf r1.po), .string anc, .string arc, .slice none 0 0, .string (byB (poL r1.po))] g2 (by kernel_rfl) rfl rfl rfl ?_; intro W1 S1 q1; have l2 := HLN.out.turn (r' := { r1 with kind := 2 }) q1 HLN.out.ops ⟨_, _, _, HG.out, S1⟩)
            | (go_at_call 32; refine (HNX.out _ _ l2 HO.out).mono ?_; rintro e w2 ⟨s2, t2, rfl, hst2, k2, hle⟩))
          go_roundw
          case rel => exact ⟨s2, t2, rfl, rfl, hst2, (hkq.two q1).two k2⟩
          case measure => have := HLE.out; rw [this]; simp only [okN] at hle ⊢; omega
        · by_cases ht : s = wThin
          · rw [ht] at ho2 ⊢
            have HO : Hid (O = optR { r1 with thin := true } L1) := ho2
            unfold wThin
            clear ho2 hg hb2 ht
            go_wp2_with (first
              | (refine wpList_store_kz rfl rfl _ _ _ rfl b 9 (.bool true) rfl rfl _ _ #[.slice a n c, .int .i64 pr, .int .u8 ((opF r1.op r1.s).toNat : Int), .bool r1.vb, .bool r1.up, .bool r1.qu, .bool r1.det, .bool r1.dat, .bool r1.bare, .bool true, .int .i64 r1.kind, .int .i64 (whOf r1.po), .string anc, .string arc, .slice none 0 0, .string (byB (poL r1.po))] g2 (by kernel_rfl) rfl rfl rfl ?_; intro W1 S1 q1; have l2 := HLN.out.turn (r' := { r1 with thin := true }) q1 HLN.out.ops ⟨_, _, _, HG.out, S1⟩)
              | (go_at_call 32; refine (HNX.out _ _ l2 HO.out).mono ?_; rintro e w2 ⟨s2, t2, rfl, hst2, k2, hle⟩))
            go_roundw
            case rel => exact ⟨s2, t2, rfl, rfl, hst2, (hkq.two q1).two k2⟩
            case measure => have := HLE.out; rw [this]; simp only [okN] at hle ⊢; omega
          · have HO : Hid (O = .inl s) := by
              show _ = _
              rw [ho2]
              unfold optW
              rw [if_neg hg, if_neg hb2, if_neg ht]
            have n1 : (s.toList == [45, 45, 102, 111, 114, 109, 97, 116, 61, 103, 110, 117]) = false := beqW hg rfl
            have n2 : (s.toList == [45, 45, 102, 111, 114, 109, 97, 116, 61, 98, 115, 100]) = false := beqW hb2 rfl
            have n3 : (s.toList == [45, 45, 116, 104, 105, 110]) = false := beqW ht rfl
            clear ho2 hg hb2 ht
            go_wp2
            go_ret2
            rw [HO.out]
            exact ⟨rfl, HLN.out.bel⟩
end Go.Proofs.YtmhamlhmmkbkaaaDoor
