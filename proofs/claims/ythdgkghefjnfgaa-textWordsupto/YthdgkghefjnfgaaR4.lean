-- The document's own Words, whole.
import Derived.Test.YthdgkghefjnfgaaR3
namespace Go.Proofs.Ythdgkghefjnfgaa
open Go.RowKit
set_option linter.unusedVariables false
def cellNat (w : World) (a : Addr) : Nat := match w.cell? a with
  | some (.int _ n) => n.toNat
  | _ => 0
theorem own_weaken {w : World} {B B' : Nat} {e : TypeId} {size : Nat} {v : Value} {n : Nat} {xs : List Value} (h : w.ownsRow B e size v n xs) (hB : B' ≤ B) : w.ownsRow B' e size v n xs := by
  refine ⟨h.1, ?_⟩
  rcases h.2 with h2 | ⟨g, cap, cur, hv, hg, r⟩
  · exact .inl h2
  · exact .inr ⟨g, cap, cur, hv, by omega, r⟩
theorem scan_at4 {B : Nat} {w : World} {ws : List ByteArray} {inn : Bool} {wd : List UInt8} {q a : Int} (h : ScanAt B w ws inn wd q a) : cellNat w ⟨B, 4, none⟩ = a.toNat := by
  obtain ⟨v, u, hbk, hv, hu⟩ := h
  unfold cellNat
  rw [Lib.cell_of_heap hbk]; rfl
set_option maxHeartbeats 2000000 in
theorem rwords_c (s : ByteArray) (w : World) (hm : s.size ≤ 4194304) : Calls Try.prog 7 #[.string s] w (WordsGave (wordsL (lst s)) w) := by
  have HST : Hid (∀ (k : Nat) (qq : Option Nat) (inn : Bool) (wd : List UInt8) (ws : List ByteArray) (wx : World), k < s.size → ScanAt w.heap.size wx ws inn wd (qI qq) k → wd.length ≤ k → ws.length ≤ k → (∀ p, qq = some p → p ≤ k) → Calls Try.prog 19 #[.pointer (some ⟨w.heap.size, 0, none⟩), .string s] wx (Stepped s w.heap.size k qq inn wd ws wx)) :=
    fun k qq inn wd ws wx h1 h2 h3 h4 h5 => step_c s w.heap.size k qq inn wd ws wx h1 hm h2 h3 h4 h5
  have HEN : Hid (∀ (ws : List ByteArray) (inn : Bool) (wd : List UInt8) (q a : Int) (wx : World), ScanAt w.heap.size wx ws inn wd q a → ws.length ≤ 4194304 → wd.length ≤ 4194304 → Calls Try.prog 20 #[.pointer (some ⟨w.heap.size, 0, none⟩)] wx fun e w' => e = .returned (.tuple #[]) ∧ ScanAt w.heap.size w' (endW inn wd ws) false [] q a ∧ Below w.heap.size wx w') :=
    fun ws inn wd q a wx h1 h2 h3 => end_c w.heap.size wx ws inn wd q a h1 h2 h3
  go_enter Try.func7, Try.ntmps7
  go_wp2
  go_loopw [] (fun wr => ∃ (k : Nat) (qq : Option Nat) (inn : Bool) (wd : List UInt8) (ws : List ByteArray), k ≤ s.size ∧ wd.length ≤ k ∧ ws.length ≤ k ∧ (∀ p, qq = some p → p ≤ k) ∧ ScanAt w.heap.size wr ws inn wd (qI qq) k ∧ Below w.heap.size w wr ∧ wordsL (lst s) = scanL ((lst s).drop k) k qq inn wd ws) (fun wr => s.size - cellNat wr ⟨w.heap.size, 4, none⟩)
  case atStart =>
    refine ⟨0, none, false, [], [], Nat.zero_le _, by simp, by simp, (fun p hp => by cases hp), ⟨_, _, heap_alloc_new w _, World.ownsRow_nil _ _ _ _, World.ownsRow_nil _ _ _ _⟩, (Below.refl _ w).alloc (Nat.le_refl _) _, rfl⟩
  case round =>
    obtain ⟨k, qq, inn, wd, ws, hks, hwd, hws, hqk, hS, hbw, hsc⟩ := hrel
    have HSC : Hid (wordsL (lst s) = scanL ((lst s).drop k) k qq inn wd ws) := hsc
    have h4 := scan_at4 hS
    have HS0 : Hid (ScanAt w.heap.size wr ws inn wd (qI qq) k) := hS
    have HQK : Hid (∀ p, qq = some p → p ≤ k) := hqk
    have hbs := hbw.size
    obtain ⟨v, u, hbk, hv, hu⟩ := hS
    have c3 : wr.cell? ⟨w.heap.size, 3, none⟩ = some (.int .i64 (qI qq)) := by rw [Lib.cell_of_heap hbk]; rfl
    have c4 : wr.cell? ⟨w.heap.size, 4, none⟩ = some (.int .i64 k) := by rw [Lib.cell_of_heap hbk]; rfl
    clear hsc hqk hv hu hbk
    by_cases h : k < s.size
    · have b1 : decide ((k : Int) < (s.size : Int)) = true := by simp; omega
      go_wp2_with (go_at_call 19; refine (HST.out k qq inn wd ws _ h HS0.out hwd hws HQK.out).mono ?_)
      rintro e w1 ⟨hb1, hor⟩
      have hbw1 := hbw.trans hb1
      rcases hor with ⟨rfl, k', qq', inn', wd', ws', hkk, hk's, hwd', hws', hq', hS', hsc'⟩ | ⟨rfl, hS', hsc'⟩
      · have HSC' : Hid (wordsL (lst s) = scanL ((lst s).drop k') k' qq' inn' wd' ws') := by show _ = _; rw [HSC.out, hsc']
        have h4' := scan_at4 hS'
        clear hsc'
        go_wp2
        go_roundw
        case rel => exact ⟨k', qq', inn', wd', ws', hk's, hwd', hws', hq', hS', hbw1, HSC'.out⟩
        case measure => rw [h4, h4']; simp; omega
      · have HF : Hid (wordsL (lst s) = .inl (k, 21)) := by show _ = _; rw [HSC.out, hsc']
        obtain ⟨v1, u1, hbk1, -, -⟩ := hS'
        have d4 : w1.cell? ⟨w.heap.size, 4, none⟩ = some (.int .i64 k) := by rw [Lib.cell_of_heap hbk1]; rfl
        clear hsc' hbk1
        go_wp2
        go_quiet (fail)
        go_wp2
        go_returns
        refine ⟨below_drewN hbw1 _, ?_⟩
        rw [HF.out]
        exact ⟨by decide, by decide, rfl⟩
    · have b1 : decide ((k : Int) < (s.size : Int)) = false := by simp; omega
      obtain rfl : k = s.size := by omega
      rcases qq with _ | p
      · have HF : Hid (wordsL (lst s) = .inr (endW inn wd ws)) := by show _ = _; rw [HSC.out, drop_end, scan_nil]
        simp only [qI] at c3
        go_wp2_with (go_at_call 20; refine (HEN.out ws inn wd _ _ _ HS0.out (by omega) (by omega)).mono ?_; rintro e w1 ⟨rfl, ⟨v1, u1, hbk1, hv1, hu1⟩, hb1⟩; have d0 : w1.cell? ⟨w.heap.size, 0, none⟩ = some v1 := (by rw [Lib.cell_of_heap hbk1]; rfl))
        go_returns
        refine ⟨hbw.trans hb1, ?_⟩
        rw [HF.out]
        exact ⟨v1, rfl, own_weaken hv1 (by omega)⟩
      · have HF : Hid (wordsL (lst s) = .inl (p, 20)) := by show _ = _; rw [HSC.out, drop_end, scan_nil]
        simp only [qI] at c3
        have hp9 := HQK.out p rfl
        have b2 : decide ((0 : Int) ≤ (p : Int)) = true := by simp
        go_wp2
        go_quiet (fail)
        go_wp2
        go_returns
        refine ⟨below_drewN hbw _, ?_⟩
        rw [HF.out]
        exact ⟨by decide, by decide, rfl⟩
end Go.Proofs.Ythdgkghefjnfgaa
