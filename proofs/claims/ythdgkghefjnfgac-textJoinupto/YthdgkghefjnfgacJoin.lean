import Derived.Test.YthdgkghefjnfgacQ4
import Derived.Test.YthdgkghefjnfgacRow
namespace Go.Proofs.Ythdgkghefjnfgac
open Go.RowKit
set_option linter.unusedVariables false
theorem join_snoc (ws : List (List UInt8)) (w : List UInt8) : joinL (ws ++ [w]) = if ws = [] then quoteL w else joinL ws ++ 32 :: quoteL w := by
  induction ws with
  | nil => simp [joinL]
  | cons v r ih =>
    cases r with
    | nil => simp [joinL]
    | cons u r =>
      have e : joinL (v :: u :: r ++ [w]) = quoteL v ++ 32 :: joinL ((u :: r) ++ [w]) := by simp [joinL]
      rw [e, ih]
      simp [joinL]
def tot (l : List ByteArray) : Nat := (l.map fun b => b.size + 1).sum
theorem tot_append (a b : List ByteArray) : tot (a ++ b) = tot a + tot b := by simp [tot]
theorem join_len (ws : List ByteArray) : (joinL (ws.map fun b => b.data.toList)).length ≤ 4 * tot ws := by
  induction ws with
  | nil => simp [joinL, tot]
  | cons v r ih =>
    have h := quoteL_length v.data.toList
    have e : v.data.toList.length = v.size := by simp
    rw [e] at h
    cases r with
    | nil => simp only [List.map_cons, List.map_nil, joinL, tot, List.sum_cons, List.sum_nil]; omega
    | cons u r =>
      simp only [List.map_cons, joinL, List.length_append, List.length_cons] at ih ⊢
      have t : tot (v :: u :: r) = v.size + 1 + tot (u :: r) := by simp [tot]
      omega
theorem tot_take (l : List ByteArray) (k : Nat) : tot (l.take k) ≤ tot l := by
  have := tot_append (l.take k) (l.drop k)
  rw [List.take_append_drop] at this; omega
theorem size_tot (l : List ByteArray) (k : Nat) (h : k < l.length) : (l.getD k .empty).size + 1 ≤ tot l := by
  have e : l = l.take k ++ (l.getD k .empty :: l.drop (k + 1)) := by
    have : l.getD k .empty = l[k] := by simp [List.getD, List.getElem?_eq_getElem h]
    rw [this, ← List.drop_eq_getElem_cons h, List.take_append_drop]
  have := tot_append (l.take k) (l.getD k .empty :: l.drop (k + 1))
  rw [← e] at this
  have t : tot (l.getD k .empty :: l.drop (k + 1)) = (l.getD k .empty).size + 1 + tot (l.drop (k + 1)) := by simp [tot]
  omega
def ljoin (l : List ByteArray) : List UInt8 := joinL (l.map fun b => b.data.toList)
theorem ljoin_succ (l : List ByteArray) (k : Nat) (h : k < l.length) : ljoin (l.take (k + 1)) = (if k = 0 then [] else ljoin (l.take k) ++ [32]) ++ quoteL (lsq (l.getD k .empty)) := by
  have e : l.take (k + 1) = l.take k ++ [l.getD k .empty] := by
    rw [List.take_add_one, List.getElem?_eq_getElem h]; simp [List.getD, List.getElem?_eq_getElem h]
  unfold ljoin
  rw [e, List.map_append, List.map_cons, List.map_nil, join_snoc]
  by_cases hk : k = 0
  · subst hk; simp [lsq]
  · have hn : ¬ (l.take k).map (fun b => b.data.toList) = [] := by
      intro e
      have := congrArg List.length e
      rw [List.length_map, List.length_take, List.length_nil] at this; omega
    rw [if_neg hn, if_neg hk]; simp [lsq]
theorem isB_below {B b : Nat} {l : List UInt8} {w w' : World} (h : IsB B b l w) (hb : Below w.heap.size w w') : IsB B b l w' := by
  have key : ∀ p, Lib.BuilderAtF 29 5 B b p (Lib.byteCells l) w → Lib.BuilderAtF 29 5 B b p (Lib.byteCells l) w' := by
    intro p h
    obtain ⟨hB, v, hbk, hown, hne⟩ := h
    exact ⟨hB, v, (hb.block b (blk_lt hbk)).trans hbk, hown.kept (row := none) ⟨hb.os, hb.tape, hb.output, hb.size, fun k hk _ => hb.block k hk⟩ (by cases hv : v.ownBlock <;> simp), hne⟩
  rcases h with h | h
  · exact .inl (key _ h)
  · exact .inr (key _ h)
set_option maxHeartbeats 2000000 in
theorem join_c (va : Value) (l : List ByteArray) (w : World) (ha : RowS w va l) (ht : tot l ≤ 1048600) :
    Calls Try.prog 4 #[va] w fun e w' => e = .returned (.string (strB (ljoin l))) ∧ Below w.heap.size w w' := by
  have hlen : l.length ≤ 1048600 := by
    have : l.length ≤ tot l := by
      clear ha ht
      induction l with
      | nil => simp
      | cons v r ih => have t : tot (v :: r) = v.size + 1 + tot r := by simp [tot]
                       simp only [List.length_cons]; omega
    omega
  have hf : IsB w.heap.size w.heap.size [] (w.alloc (.cells #[.pointer none, .slice none 0 0] 29)) := Lib.IsBuilderF.of (Lib.fresh_isBuilder 29 5 w)
  have hba : Below w.heap.size w (w.alloc (.cells #[.pointer none, .slice none 0 0] 29)) := (Below.refl _ w).alloc (Nat.le_refl _) _
  have HST : Hid (∀ (acc : List UInt8) (wx : World), IsB w.heap.size w.heap.size acc wx → w.heap.size ≤ wx.heap.size → Calls Try.prog 10 #[.pointer (some ⟨w.heap.size, 0, none⟩)] wx fun e w' => e = .returned (.string (strB acc)) ∧ (Lib.IsBuilderF 29 5 w.heap.size w.heap.size (Lib.byteCells acc) w' ∧ Below w.heap.size wx w' ∧ Lib.OthersKept 5 (some w.heap.size) wx w')) := fun acc wx h hB => Try.Builder_String_any_k w.heap.size w.heap.size acc wx h hB
  rcases ha with ⟨rfl, ao, c, rfl⟩ | ⟨b, off, cap, rfl, hc⟩
  · go_enter Try.func4, Try.ntmps4
    go_wp2
    refine wp_loop_rounds 1 ?_
    rw [rounds_succ]
    go_wp2_with (go_at_call 10; refine (HST.out [] _ hf (by simp)).mono ?_; rintro e w4 ⟨rfl, _, b4, _⟩)
    go_ret
    exact ⟨rfl, hba.trans b4⟩
  · have HC : Hid (∀ j, j < l.length → w.cell? ⟨b, off + j, none⟩ = some (.string (l.getD j .empty))) := hc
    have HQ : Hid (∀ k, k < l.length → ∀ wx, Calls Try.prog 9 #[.string (l.getD k .empty)] wx fun e w' => e = .returned (.string (strB (quoteL (lsq (l.getD k .empty))))) ∧ Below wx.heap.size wx w') := fun k hk wx => quote_c _ wx (by have := size_tot l k hk; omega)
    have H32 : Hid (∀ (bs : List UInt8) (wx : World), bs.length + 1 ≤ 140737488355328 → IsB w.heap.size w.heap.size bs wx → w.heap.size ≤ wx.heap.size → Calls Try.prog 7 #[.pointer (some ⟨w.heap.size, 0, none⟩), .int .u8 32] wx fun e w' => e = .returned .nilIface ∧ IsB w.heap.size w.heap.size (bs ++ [32]) w' ∧ Below w.heap.size wx w' ∧ Kept w.heap.size wx w') := fun bs wx hl h hB => writeByte_c w.heap.size w.heap.size bs 32 wx h hl hB
    obtain ⟨n, hn⟩ : ∃ n, n = l.length := ⟨_, rfl⟩
    rw [← hn] at hlen HC HQ ⊢
    have HN : Hid (n = l.length) := hn
    clear hc hn
    go_enter Try.func4, Try.ntmps4
    go_wp2
    go_loopw [8] (fun i wr => ∃ k : Nat, i = .int .i64 k ∧ k ≤ n ∧ IsB w.heap.size w.heap.size (ljoin (l.take k)) wr ∧ Below w.heap.size w wr) (fun i _ => n - (intOf i).toNat)
    case atStart => exact ⟨0, rfl, Nat.zero_le _, hf, hba⟩
    case round =>
      obtain ⟨k, rfl, hkn, hI, hbw⟩ := hrel
      have hbs := hbw.size
      by_cases hk : k < n
      · have b1 : decide ((k : Int) < (n : Int)) = true := by simp; omega
        have kI : (k : Int) < (n : Int) := by omega
        have hc0 := HC.out k hk
        have hbl : b < w.heap.size := World.block_lt_of_cell? w _ hc0
        have hcw : wr.cell? ⟨b, off + k, none⟩ = some (.string (l.getD k .empty)) := (hbw.cell (p := ⟨b, off + k, none⟩) hbl).trans hc0
        have hll := join_len (l.take k)
        have htk := tot_take l k
        have hsx := size_tot l k (by rw [← HN.out]; exact hk)
        have HJ : Hid (ljoin (l.take (k + 1)) = (if k = 0 then [] else ljoin (l.take k) ++ [32]) ++ quoteL (lsq (l.getD k .empty))) := ljoin_succ l k (by rw [← HN.out]; exact hk)
        have hql := quoteL_length (lsq (l.getD k .empty))
        rw [lsq_len] at hql
        obtain ⟨x, hx⟩ : ∃ x, x = l.getD k .empty := ⟨_, rfl⟩
        have HQK : Hid (∀ wx, Calls Try.prog 9 #[.string x] wx fun e w' => e = .returned (.string (strB (quoteL (lsq x)))) ∧ Below wx.heap.size wx w') := fun wx => by rw [hx]; exact HQ.out k hk wx
        rw [← hx] at hcw hql HJ hsx
        obtain ⟨q, hq⟩ : ∃ q, q = quoteL (lsq x) := ⟨_, rfl⟩
        rw [← hq] at HQK hql HJ
        obtain ⟨acc, hacc⟩ : ∃ acc, acc = ljoin (l.take k) := ⟨_, rfl⟩
        have hal : acc.length ≤ 4194400 := by rw [hacc]; show (joinL _).length ≤ _; omega
        have HA0 : Hid (k = 0 → acc = []) := fun e => by subst e; rw [hacc]; rfl
        rw [← hacc] at hI HJ
        have hqs : (strB q).size = q.length := by simp [strB, ByteArray.size]
        clear hx hq hacc HQ hll htk hc0
        have H24 : Hid (∀ (bs : List UInt8) (wx : World), bs.length ≤ 4194401 → IsB w.heap.size w.heap.size bs wx → w.heap.size ≤ wx.heap.size → Calls Try.prog 8 #[.pointer (some ⟨w.heap.size, 0, none⟩), .string (strB q)] wx fun e w' => e = .returned (.tuple #[.int .i64 (strB q).size, .nilIface]) ∧ IsB w.heap.size w.heap.size (bs ++ q) w' ∧ Below w.heap.size wx w' ∧ Kept w.heap.size wx w') := fun bs wx hl h hB => by
          have := writeString_c w.heap.size w.heap.size bs (strB q) wx h (by rw [hqs]; omega) hB
          rwa [show (strB q).data.toList = q by simp [strB]] at this
        by_cases h0 : k = 0
        · subst h0
          obtain rfl := HA0.out rfl
          have HJ0 : Hid (ljoin (l.take (0 + 1)) = q) := by show _ = _; have := HJ.out; simpa using this
          have hcw0 : wr.cell? ⟨b, off, none⟩ = some (.string x) := hcw
          clear HJ HA0 hcw
          go_wp2_with (go_at_call 9; refine (HQK.out _).mono ?_; rintro e w2 ⟨rfl, bb2⟩; have s2 := bb2.size; have hI2 := isB_below hI bb2)
          go_wp2_with (go_at_call 8; refine (H24.out [] _ (by simp) hI2 (by omega)).mono ?_; rintro e w3 ⟨rfl, h3, bb3, kk3⟩)
          go_roundw
          case rel => exact ⟨1, rfl, by omega, by have := HJ0.out; rw [show (0 + 1 : Nat) = 1 from rfl] at this; rw [this]; exact h3, (hbw.trans (bb2.mono hbs)).trans bb3⟩
          case measure => simp [intOf]; omega
        · have b2 : decide ((0 : Int) < (k : Int)) = true := by simp; omega
          have HJ0 : Hid (ljoin (l.take (k + 1)) = acc ++ [32] ++ q) := by show _ = _; have := HJ.out; rw [if_neg h0] at this; exact this
          clear HJ HA0
          go_wp2_with (go_at_call 7; refine (H32.out acc _ (by omega) hI (by omega)).mono ?_; rintro e w1 ⟨rfl, h1, bb1, kk1⟩; have s1 := bb1.size)
          go_wp2_with (go_at_call 9; refine (HQK.out _).mono ?_; rintro e w2 ⟨rfl, bb2⟩; have s2 := bb2.size; have hI2 := isB_below h1 bb2)
          go_wp2_with (go_at_call 8; refine (H24.out _ _ (by simp; omega) hI2 (by omega)).mono ?_; rintro e w3 ⟨rfl, h3, bb3, kk3⟩)
          go_roundw
          case rel => exact ⟨k + 1, by go_num, by omega, by rw [HJ0.out]; exact h3, ((hbw.trans bb1).trans (bb2.mono (by omega))).trans bb3⟩
          case measure => simp [intOf]; omega
      · obtain rfl : k = n := by omega
        have b1 : decide ((k : Int) < (k : Int)) = false := by simp
        have HE : Hid (ljoin (l.take k) = ljoin l) := by show _ = _; rw [HN.out, List.take_length]
        go_wp2_with (go_at_call 10; refine (HST.out _ _ hI (by omega)).mono ?_; rintro e w4 ⟨rfl, _, b4, _⟩)
        go_ret
        exact ⟨by rw [HE.out]; rfl, hbw.trans b4⟩
end Go.Proofs.Ythdgkghefjnfgac
