-- The document's own Words: a step, and the whole.
import Derived.Test.YthdgkghefjnfgaaR2
namespace Go.Proofs.Ythdgkghefjnfgaa
open Go.RowKit
set_option linter.unusedVariables false
/-- What a step does: a byte or an escape read, or the escape that is none. -/
def Stepped (s : ByteArray) (B k : Nat) (qq : Option Nat) (inn : Bool) (wd : List UInt8) (ws : List ByteArray) (w : World) (e : Ending) (w' : World) : Prop :=
  Below B w w' ∧
  ((e = .returned (.bool true) ∧ ∃ (k' : Nat) (qq' : Option Nat) (inn' : Bool) (wd' : List UInt8) (ws' : List ByteArray), k < k' ∧ k' ≤ s.size ∧ wd'.length ≤ k' ∧ ws'.length ≤ k' ∧ (∀ p, qq' = some p → p ≤ k') ∧
      ScanAt B w' ws' inn' wd' (qI qq') k' ∧ scanL ((lst s).drop k) k qq inn wd ws = scanL ((lst s).drop k') k' qq' inn' wd' ws') ∨
   (e = .returned (.bool false) ∧ ScanAt B w' ws true wd (qI qq) k ∧ scanL ((lst s).drop k) k qq inn wd ws = .inl (k, 21)))
theorem one_at {n : Nat} (W : World) (x : Value) (t : TypeId) (h : n = W.heap.size) : (W.alloc (.cells #[x] t)).cell? ((⟨n, 0, none⟩ : Addr).add 0) = some x := by
  subst h; simp [Addr.add]
theorem grow_drew {w w' : World} {r : Option Nat} (h : w.drew.grownBy w' r) : w.grownBy w' r := ⟨h.os, h.tape, h.output, h.size, h.block⟩
/-- The open word grown by a byte. -/
theorem put_byte {B : Nat} {w w1 w2 : World} {v u u' : Value} {ws : List ByteArray} {wd : List UInt8} {c : UInt8} {q a : Int} {o : Obj} {inn : Bool}
    (hbk : w1.heap[B]? = some (.cells #[v, .bool inn, u, .int .i64 q, .int .i64 a] 43 (0, 0))) (hv : w1.ownsRow (B + 1) 9 1 v ws.length (strV ws)) (hu : w1.ownsRow (B + 1) 5 1 u wd.length (Lib.byteCells wd)) (hb : Below B w w1)
    (hown' : w2.ownsRow (B + 1) 5 1 u' (wd.length + 1) (Lib.byteCells wd ++ [.int .u8 c.toNat])) (hgrow : (w1.alloc o).grownBy w2 u.ownBlock) :
    w2.heap[B]? = some (.cells #[v, .bool inn, u, .int .i64 q, .int .i64 a] 43 (0, 0)) ∧ w2.ownsRow (B + 1) 9 1 v ws.length (strV ws) ∧ w2.ownsRow (B + 1) 5 1 u' (wd ++ [c]).length (Lib.byteCells (wd ++ [c])) ∧ Below B w w2 := by
  have hlt : B < w1.heap.size := (Array.getElem?_eq_some_iff.1 hbk).1
  refine ⟨((hgrow.block B (by simp; omega) (own_ne hu)).trans (Lib.alloc_old w1 _ B hlt)).trans hbk, ?_, ?_, ?_⟩
  · refine (hv.alloc o).kept hgrow ?_
    rcases own_apart hv hu with h | h
    · rw [h]
      cases e : v.ownBlock with
      | none => exact .inl rfl
      | some g => exact .inr (by simp)
    · exact .inr fun e => h e.symm
  · rw [Lib.byteCells_append]; simpa [Lib.byteCells] using hown'
  · exact (hb.alloc (by omega) o).grown hgrow (by simp; omega) (fun k hk => by have := (hu.lt k hk).1; omega)
set_option maxHeartbeats 2000000 in
theorem step_c (s : ByteArray) (B k : Nat) (qq : Option Nat) (inn : Bool) (wd : List UInt8) (ws : List ByteArray) (w : World) (hk : k < s.size) (hm : s.size ≤ 4194304) (hS : ScanAt B w ws inn wd (qI qq) k) (hwd : wd.length ≤ k) (hws : ws.length ≤ k) (hqk : ∀ p, qq = some p → p ≤ k) :
    Calls Try.prog 19 #[.pointer (some ⟨B, 0, none⟩), .string s] w (Stepped s B k qq inn wd ws w) := by
  have HS0 : Hid (ScanAt B w ws inn wd (qI qq) k) := hS
  obtain ⟨v, u, hbk, hv, hu⟩ := hS
  obtain ⟨i0, hi, hz0, hz1, hz2⟩ := info_parts info5
  have hlt : B < w.heap.size := (Array.getElem?_eq_some_iff.1 hbk).1
  have hidx := idx s k hk
  have hdr := drop_at s k hk
  obtain ⟨c, hc⟩ : ∃ c, c = s[k] := ⟨_, rfl⟩
  rw [← hc] at hidx hdr
  have HD : Hid ((lst s).drop k = c :: (lst s).drop (k + 1)) := hdr
  have hc9 := c.toNat_lt
  have HP : Hid (∀ w, Calls Try.prog 25 #[.int .u8 c.toNat] w fun e w' => e = .returned (.bool (partsB c)) ∧ w' = w) := fun w => rparts_c c w
  have HQK : Hid (∀ p, qq = some p → p ≤ k) := hqk
  have c1 : w.cell? ⟨B, 1, none⟩ = some (.bool inn) := by rw [Lib.cell_of_heap hbk]; rfl
  have c2 : w.cell? ⟨B, 2, none⟩ = some u := by rw [Lib.cell_of_heap hbk]; rfl
  have c3 : w.cell? ⟨B, 3, none⟩ = some (.int .i64 (qI qq)) := by rw [Lib.cell_of_heap hbk]; rfl
  have c4 : w.cell? ⟨B, 4, none⟩ = some (.int .i64 k) := by rw [Lib.cell_of_heap hbk]; rfl
  have f1 := Lib.frozen_of_heap hbk 1
  have f2 := Lib.frozen_of_heap hbk 2
  have f3 := Lib.frozen_of_heap hbk 3
  have f4 := Lib.frozen_of_heap hbk 4
  have HBK : Hid (w.heap[B]? = some (.cells #[v, .bool inn, u, .int .i64 (qI qq), .int .i64 k] 43 (0, 0))) := hbk
  clear hc hdr hbk hqk
  by_cases hend : partsB c = true ∧ qq = none
  · obtain ⟨hp, rfl⟩ := hend
    rw [hp] at HP
    have HPP : Hid (partsB c = true) := hp
    simp only [qI] at c3
    clear hp
    go_enter Try.func19, Try.ntmps19
    go_wp2_with (first
      | (go_at_call 25; refine (HP.out _).mono ?_; rintro e w1 ⟨rfl, hw1⟩; subst w1)
      | (go_at_call 20; refine (end_c B _ ws inn wd _ _ HS0.out (by omega) (by omega)).mono ?_; rintro e w1 ⟨rfl, ⟨v1, u1, hbk1, hv1, hu1⟩, hb1⟩; have d4 : w1.cell? ⟨B, 4, none⟩ = some (.int .i64 k) := (by rw [Lib.cell_of_heap hbk1]; rfl); have g4 := Lib.frozen_of_heap hbk1 4))
    go_ret
    refine ⟨hb1.setCell (p := ⟨B, 4, none⟩) (Nat.le_refl _) _, .inl ⟨rfl, k + 1, none, false, [], endW inn wd ws, by omega, by omega, by simp, ?_, (fun p hp => by cases hp), ⟨v1, u1, ?_, ownsRow_setCell_below hv1 (by simp) _, ownsRow_setCell_below hu1 (by simp) _⟩, ?_⟩⟩
    · unfold endW
      split
      · simp; omega
      · omega
    · rw [blk_set hbk1]; rfl
    · rw [HD.out, scan_part _ _ _ _ _ HPP.out]
  · have HEND : Hid (¬ (partsB c = true ∧ qq = none)) := hend
    have HB1 : Hid ((w.setCell ⟨B, 1, none⟩ (.bool true)).heap[B]? = some (.cells #[v, .bool true, u, .int .i64 (qI qq), .int .i64 k] 43 (0, 0))) := by show _ = _; rw [blk_set HBK.out]; rfl
    have hv1 := ownsRow_setCell_below hv (a := ⟨B, 1, none⟩) (by simp) (.bool true)
    have hu1 := ownsRow_setCell_below hu (a := ⟨B, 1, none⟩) (by simp) (.bool true)
    have hbb : Below B w (w.setCell ⟨B, 1, none⟩ (.bool true)) := (Below.refl B w).setCell (p := ⟨B, 1, none⟩) (Nat.le_refl _) _
    -- the test ahead: no parting byte, or a quote that is open
    have HG : Hid (partsB c = true → (0 : Int) ≤ qI qq) := fun hp => by
      cases qq with
      | none => exact absurd ⟨hp, rfl⟩ hend
      | some p => simp [qI]
    obtain ⟨qv, hqv⟩ : ∃ qv, qv = qI qq := ⟨_, rfl⟩
    have HQV : Hid (qv = qI qq) := hqv
    rw [← hqv] at c3 HB1 HG
    clear hend hqv HS0 hv hu HBK
    have hq0 : partsB c = true → decide (qv < 0) = false := fun h => by have := HG.out h; simp; omega
    by_cases k92 : c = 92
    · have HE : Hid (∀ w, Calls Try.prog 26 #[.string s, .int .i64 k] w fun e w' => e = .returned (match escL ((lst s).drop (k + 1)) with | some (b, n) => .tuple #[.int .u8 b.toNat, .int .i64 n] | none => .tuple #[.int .u8 0, .int .i64 0]) ∧ w' = w) := fun w => escape_c s k w hk hm
      subst k92
      rw [show partsB 92 = false by decide] at HP
      clear hq0 HG
      rcases he : escL ((lst s).drop (k + 1)) with _ | ⟨b, n⟩
      · rw [he] at HE
        have HEE : Hid (escL ((lst s).drop (k + 1)) = none) := he
        clear he
        go_enter Try.func19, Try.ntmps19
        go_wp2_with (first
          | (go_at_call 25; refine (HP.out _).mono ?_; rintro e w1 ⟨rfl, hw1⟩; subst w1)
          | (go_at_call 26; refine (HE.out _).mono ?_; rintro e w1 ⟨rfl, hw1⟩; subst w1))
        go_ret
        refine ⟨hbb, .inr ⟨rfl, ⟨v, u, by rw [HB1.out, HQV.out], hv1, hu1⟩, ?_⟩⟩
        rw [HD.out, scan_bad _ _ _ _ _ _ HEE.out]
      · rw [he] at HE
        have hwi := escL_width he
        rw [List.length_drop, lst_len] at hwi
        have HEE : Hid (escL ((lst s).drop (k + 1)) = some (b, n)) := he
        have hb9 := b.toNat_lt
        have nz : ((n : Int) == 0) = false := by simp; omega
        clear he
        go_enter Try.func19, Try.ntmps19
        go_wp2_with (first
          | (go_at_call 25; refine (HP.out _).mono ?_; rintro e w1 ⟨rfl, hw1⟩; subst w1)
          | (go_at_call 26; refine (HE.out _).mono ?_; rintro e w1 ⟨rfl, hw1⟩; subst w1)
          | (at_builtin; refine wpList_append_own _ rfl _ _ 41 rfl (B + 1) 5 i0 (.int .u8 0) 1 1 Try.underlying41 hi hz0 hz1 hz2 rfl (by decide) _ _ _ rfl (hu1.alloc _) ⟨w.heap.size, 0, none⟩ 1 1 [.int .u8 b.toNat] rfl rfl ?c1 ?c2 ?c3 ?c4 ?c5 ?_))
        case c1 =>
          intro j u hj
          match j, hj with
          | 0, hj => simp at hj; subst hj; exact one_at _ _ _ (by simp)
        case c2 => intro u hu; simp at hu; subst hu; rfl
        case c3 => unfold maxLen; omega
        case c4 => omega
        case c5 => simp; omega
        intro u' w2 hown' hgrow _
        obtain ⟨hb2, hv2, hu2, hbw2⟩ := put_byte HB1.out hv1 hu1 hbb hown' hgrow
        obtain ⟨ao, n', cap, rfl⟩ := slice_form hown'
        have d2 : w2.cell? ⟨B, 2, none⟩ = some u := by rw [Lib.cell_of_heap hb2]; rfl
        have d4 : w2.cell? ⟨B, 4, none⟩ = some (.int .i64 k) := by rw [Lib.cell_of_heap hb2]; rfl
        have g2 := Lib.frozen_of_heap hb2 2
        have g4 := Lib.frozen_of_heap hb2 4
        have HB2 : Hid (w2.heap[B]? = some (.cells #[v, .bool true, u, .int .i64 qv, .int .i64 k] 43 (0, 0))) := hb2
        clear hown' hgrow hb2 c1 c2 c3 c4 f1 f2 f3 f4 hv1 hu1
        go_wp2
        go_ret
        refine ⟨(hbw2.setCell (p := ⟨B, 2, none⟩) (Nat.le_refl _) _).setCell (p := ⟨B, 4, none⟩) (Nat.le_refl _) _, .inl ⟨rfl, k + n, qq, true, wd ++ [b], ws, by omega, by omega, (by simp; omega), by omega, (fun p hp => by have := HQK.out p hp; omega), ⟨v, _, ?_, ownsRow_setCell_below (ownsRow_setCell_below hv2 (by simp) _) (by simp) _, ownsRow_setCell_below (ownsRow_setCell_below hu2 (by simp) _) (by simp) _⟩, ?_⟩⟩
        · rw [blk_set (blk_set HB2.out _), HQV.out]; simp
        · rw [HD.out, scan_esc _ _ _ _ _ _ _ _ HEE.out, List.drop_drop, show k + 1 + (n - 1) = k + n by omega]
    · have n92 : ((c.toNat : Int) == 92) = false := by
        have : c.toNat ≠ 92 := fun h => k92 (UInt8.toNat_inj.1 h)
        simp; omega
      by_cases k34 : c = 34
      · subst k34
        rw [show partsB 34 = false by decide] at HP
        clear hq0 HG
        rcases qq with _ | p
        · obtain rfl : qv = -1 := HQV.out
          go_enter Try.func19, Try.ntmps19
          go_wp2_with (go_at_call 25; refine (HP.out _).mono ?_; rintro e w1 ⟨rfl, hw1⟩; subst w1)
          go_ret
          refine ⟨((hbb.setCell (p := ⟨B, 3, none⟩) (Nat.le_refl _) _).setCell (p := ⟨B, 4, none⟩) (Nat.le_refl _) _), .inl ⟨rfl, k + 1, some k, true, wd, ws, by omega, by omega, by omega, by omega, (fun p hp => by cases hp; omega), ⟨v, u, ?_, ownsRow_setCell_below (ownsRow_setCell_below hv1 (by simp) _) (by simp) _, ownsRow_setCell_below (ownsRow_setCell_below hu1 (by simp) _) (by simp) _⟩, ?_⟩⟩
          · rw [blk_set (blk_set HB1.out _)]; simp [qI]
          · rw [HD.out, scan_quote]; simp
        · have hq2 : decide (qv < 0) = false := by
            have : qv = (p : Int) := HQV.out
            simp; omega
          go_enter Try.func19, Try.ntmps19
          go_wp2_with (go_at_call 25; refine (HP.out _).mono ?_; rintro e w1 ⟨rfl, hw1⟩; subst w1)
          go_ret
          refine ⟨((hbb.setCell (p := ⟨B, 3, none⟩) (Nat.le_refl _) _).setCell (p := ⟨B, 4, none⟩) (Nat.le_refl _) _), .inl ⟨rfl, k + 1, none, true, wd, ws, by omega, by omega, by omega, by omega, (fun p hp => by cases hp), ⟨v, u, ?_, ownsRow_setCell_below (ownsRow_setCell_below hv1 (by simp) _) (by simp) _, ownsRow_setCell_below (ownsRow_setCell_below hu1 (by simp) _) (by simp) _⟩, ?_⟩⟩
          · rw [blk_set (blk_set HB1.out _)]; simp [qI]
          · rw [HD.out, scan_quote]; simp
      · have n34 : ((c.toNat : Int) == 34) = false := by
          have : c.toNat ≠ 34 := fun h => k34 (UInt8.toNat_inj.1 h)
          simp; omega
        have HN : Hid (c ≠ 92 ∧ c ≠ 34) := ⟨k92, k34⟩
        clear k92 k34
        rcases hpb : partsB c with _ | _
        all_goals
          rw [hpb] at HP
          try have hq1 := hq0 hpb
          clear hq0 hpb HG
          go_enter Try.func19, Try.ntmps19
          go_wp2_with (first
            | (go_at_call 25; refine (HP.out _).mono ?_; rintro e w1 ⟨rfl, hw1⟩; subst w1)
            | (at_builtin; refine wpList_append_own _ rfl _ _ 41 rfl (B + 1) 5 i0 (.int .u8 0) 1 1 Try.underlying41 hi hz0 hz1 hz2 rfl (by decide) _ _ _ rfl (hu1.alloc _) ⟨w.heap.size, 0, none⟩ 1 1 [.int .u8 c.toNat] rfl rfl ?c1 ?c2 ?c3 ?c4 ?c5 ?_))
          case c1 =>
            intro j u hj
            match j, hj with
            | 0, hj => simp at hj; subst hj; exact one_at _ _ _ (by simp)
          case c2 => intro u hu; simp at hu; subst hu; rfl
          case c3 => unfold maxLen; omega
          case c4 => omega
          case c5 => simp; omega
          intro u' w2 hown' hgrow _
          obtain ⟨hb2, hv2, hu2, hbw2⟩ := put_byte HB1.out hv1 hu1 hbb hown' hgrow
          obtain ⟨ao, n', cap, rfl⟩ := slice_form hown'
          have d2 : w2.cell? ⟨B, 2, none⟩ = some u := by rw [Lib.cell_of_heap hb2]; rfl
          have d4 : w2.cell? ⟨B, 4, none⟩ = some (.int .i64 k) := by rw [Lib.cell_of_heap hb2]; rfl
          have g2 := Lib.frozen_of_heap hb2 2
          have g4 := Lib.frozen_of_heap hb2 4
          have HB2 : Hid (w2.heap[B]? = some (.cells #[v, .bool true, u, .int .i64 qv, .int .i64 k] 43 (0, 0))) := hb2
          clear hown' hgrow hb2 c1 c2 c3 c4 f1 f2 f3 f4 hv1 hu1
          go_wp2
          go_ret
          refine ⟨(hbw2.setCell (p := ⟨B, 2, none⟩) (Nat.le_refl _) _).setCell (p := ⟨B, 4, none⟩) (Nat.le_refl _) _, .inl ⟨rfl, k + 1, qq, true, wd ++ [c], ws, by omega, by omega, (by simp; omega), by omega, (fun p hp => by have := HQK.out p hp; omega), ⟨v, _, ?_, ownsRow_setCell_below (ownsRow_setCell_below hv2 (by simp) _) (by simp) _, ownsRow_setCell_below (ownsRow_setCell_below hu2 (by simp) _) (by simp) _⟩, ?_⟩⟩
          · rw [blk_set (blk_set HB2.out _), HQV.out]; simp
          · rw [HD.out, scan_byte _ _ _ _ _ _ HEND.out HN.out.1 HN.out.2]
end Go.Proofs.Ythdgkghefjnfgaa
