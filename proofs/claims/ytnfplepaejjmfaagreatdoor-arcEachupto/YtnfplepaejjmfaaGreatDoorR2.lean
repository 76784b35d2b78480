
-- arc: a walk in memory; what look and pass do to it.
import Derived.Test.YtnfplepaejjmfaaGreatDoorP5
import Derived.Test.YtnfplepaejjmfaaGreatDoorP6
import Derived.Test.YtnfplepaejjmfaaGreatDoorR1
namespace Go.Proofs.YtnfplepaejjmfaaGreatDoor
open Go.RowKit Go.Shelf
set_option linter.unusedVariables false
set_option maxRecDepth 100000

def wkRow (b : ByteArray) (s : Wk) (i : Bool) : Array Value := #[.string b, .int .i64 (s.pos : Int), .int .i64 (s.cnt : Int), .int .i64 s.kind, .bool i, .string s.tab]
/-- the flag that the landed walk keeps, where it counts -/
def flagOk (s : Wk) (i : Bool) : Prop := (s.cnt = 0 → i = false) ∧ (s.cnt = 1 → i = s.idx)
/-- what stands at a walk that goes on -/
structure WkOk (b : ByteArray) (s : Wk) : Prop where
  pos : s.pos < b.size
  cnt : s.cnt ≤ b.size
  tab : s.tab.size ≤ b.size
/-- the contract of look: the next part, or its refusal -/
def LookC : Prop := ∀ (B : Nat) (b : ByteArray) (s : Wk) (i : Bool) (w : World), w.heap[B]? = some (.cells (wkRow b s i) 111 (0, 0)) → flagOk s i → WkOk b s → Cols w → MaxLenAt w → b.size < 4294967281 →
  Calls Tryz.prog 53 #[.pointer (some ⟨B, 0, none⟩)] w fun e w' => e = .returned (.tuple #[ptV (lookW b s), .int .i64 (lookW b s).e]) ∧ Below w.heap.size w w'
theorem pass_c (B : Nat) (b : ByteArray) (s : Wk) (i : Bool) (x : Pt) (w : World) (hB : w.heap[B]? = some (.cells (wkRow b s i) 111 (0, 0))) (hi : flagOk s i) (hc : s.cnt < 4611686018427387904) (hf : 0 ≤ x.fin) :
    Calls Tryz.prog 54 #[.pointer (some ⟨B, 0, none⟩), ptV x] w fun e w' => (∃ v, e = .returned v) ∧ (∃ i', w'.heap[B]? = some (.cells (wkRow b (passW s x) i') 111 (0, 0)) ∧ flagOk (passW s x) i') ∧ Kq B w w' := by
  obtain ⟨⟨d, u, g, m, n, sz⟩, a, z, k, ⟨so, nu, fn⟩, nm, da, e⟩ := x
  dsimp only at hf
  obtain ⟨q, rfl⟩ := Int.eq_ofNat_of_zero_le hf
  have hp : ∀ i', wkRow b (passW s ⟨⟨d, u, g, m, n, sz⟩, a, (q : Int), k, ⟨so, nu, fn⟩, nm, da, e⟩) i' = #[.string b, .int .i64 (q : Int), .int .i64 ((s.cnt : Int) + 1), .int .i64 k, .bool i', .string (if so = 3 then da else s.tab)] := fun i' => by
    unfold wkRow passW; dsimp only; rw [Int.toNat_natCast]; rfl
  have hfl : ∀ i', (ixS so → i' = true) → (¬ ixS so → i' = i) → flagOk (passW s ⟨⟨d, u, g, m, n, sz⟩, a, (q : Int), k, ⟨so, nu, fn⟩, nm, da, e⟩) i' := fun i' h1 h2 => by
    refine ⟨fun h => ?_, fun h => ?_⟩
    · have : s.cnt + 1 = 0 := h
      omega
    · have h0 : s.cnt + 1 = 1 := h
      show i' = decide (ixS so)
      by_cases hs : ixS so
      · rw [h1 hs, decide_eq_true hs]
      · rw [h2 hs, decide_eq_false hs]; exact hi.1 (by omega)
  by_cases hs : ixS so
  · have ht : ¬ so = 3 := by unfold ixS at hs; omega
    refine (pass_ix B b s.tab s.pos s.cnt s.kind i d u g m sz a q k so nu n fn nm da w hB (by omega) (by omega) hs ht).mono ?_
    rintro e w' ⟨h1, h2, h3⟩
    refine ⟨h1, ⟨true, ?_, hfl true (fun _ => rfl) (fun h => absurd hs h)⟩, h3⟩
    rw [hp, if_neg ht]; exact h2
  · by_cases ht : so = 3
    · refine (pass_tb B b s.tab s.pos s.cnt s.kind i d u g m sz a q k so nu n fn nm da w hB (by omega) (by omega) hs ht).mono ?_
      rintro e w' ⟨h1, h2, h3⟩
      refine ⟨h1, ⟨i, ?_, hfl i (fun h => absurd h hs) (fun _ => rfl)⟩, h3⟩
      rw [hp, if_pos ht]; exact h2
    · refine (pass_or B b s.tab s.pos s.cnt s.kind i d u g m sz a q k so nu n fn nm da w hB (by omega) (by omega) hs ht).mono ?_
      rintro e w' ⟨h1, h2, h3⟩
      refine ⟨h1, ⟨i, ?_, hfl i (fun h => absurd h hs) (fun _ => rfl)⟩, h3⟩
      rw [hp, if_neg ht]; exact h2
theorem extract_le (b : ByteArray) (i j : Nat) : (b.extract i j).size ≤ b.size := by
  rw [ByteArray.size_extract]; omega
theorem dataW_data (b : ByteArray) (x : Pt) (h : x.data.size ≤ b.size) : (dataW b x).data.size ≤ b.size := by
  unfold dataW; repeat' split
  · exact h
  · exact h
  · exact extract_le _ _ _
  · exact extract_le _ _ _
  · exact extract_le _ _ _
theorem tab_le (b : ByteArray) (s : Wk) (he : (lookW b s).e = 0) (h3 : (lookW b s).f.sort = 3) : (lookW b s).data.size ≤ b.size := by
  obtain ⟨h1, _, _, _, h5⟩ := lookW_ok b s he
  rw [h5] at h3 ⊢
  obtain ⟨_, _, _, n4⟩ := nameW_same s.tab (dataW b { headW b s.pos with kind := kindW s (headW b s.pos).f.sort })
  rw [n4] at h3
  unfold nameW
  rw [if_neg (by omega), if_neg (by omega), if_neg (by omega)]
  refine dataW_data b _ ?_
  show (headW b s.pos).data.size ≤ _
  unfold headW; split <;> exact Nat.zero_le _
theorem wk_ok (b : ByteArray) (h8 : 8 ≤ b.size) (k : Nat) (h : ∀ i, i < k → good b i) (hp : (st b k).pos < b.size) : WkOk b (st b k) := by
  refine ⟨hp, ?_, ?_⟩
  · have := st_pos b h8 k h
    rw [st_cnt]; omega
  · induction k with
    | zero => exact Nat.zero_le _
    | succ k ih =>
      have g := h k (by omega)
      have := ih (fun i hi => h i (by omega)) g.1
      show (if (pt b k).f.sort = 3 then (pt b k).data else (st b k).tab).size ≤ b.size
      split
      · rename_i h3; exact tab_le b (st b k) g.2 h3
      · exact this
end Go.Proofs.YtnfplepaejjmfaaGreatDoor
