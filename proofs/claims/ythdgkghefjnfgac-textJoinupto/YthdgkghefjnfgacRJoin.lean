-- The document's own Join.
import Derived.Test.YthdgkghefjnfgacF5
import Derived.Test.YthdgkghefjnfgacJoin
namespace Go.Proofs.Ythdgkghefjnfgac
open Go.RowKit
set_option linter.unusedVariables false
theorem app_one {w w' : World} {B : Nat} {v v' : Value} {l : List UInt8} {c : UInt8} (w0 : World) (o : Obj) (hown : w.ownsRow B 5 1 v l.length (Lib.byteCells l)) (hb : Below B w0 w) (hB : B ≤ w.heap.size)
    (hown' : w'.ownsRow B 5 1 v' (l.length + 1) (Lib.byteCells l ++ [.int .u8 c.toNat])) (hg : (w.alloc o).grownBy w' v.ownBlock) :
    w'.ownsRow B 5 1 v' (l ++ [c]).length (Lib.byteCells (l ++ [c])) ∧ Below B w0 w' := by
  refine ⟨by rw [Lib.byteCells_append]; simpa [Lib.byteCells] using hown', ?_⟩
  exact (hb.alloc hB o).grown hg (by simp; omega) (fun k hk => (hown.lt k hk).1)
set_option maxHeartbeats 2000000 in
theorem rjoin_c (va : Value) (l : List ByteArray) (w : World) (ha : RowS w va l) (ht : tot l ≤ 1048600) :
    Calls Try.prog 5 #[va] w fun e w' => e = .returned (.string (strB (ljoin l))) ∧ Below w.heap.size w w' := by
  have hlen : l.length ≤ 1048600 := by
    have : l.length ≤ tot l := by
      clear ha ht
      induction l with
      | nil => simp
      | cons v r ih => have t : tot (v :: r) = v.size + 1 + tot r := by simp [tot]
                       simp only [List.length_cons]; omega
    omega
  obtain ⟨i0, hi, hz0, hz1, hz2⟩ := info_parts info5f
  rcases ha with ⟨rfl, ao, c, rfl⟩ | ⟨b, off, cap, rfl, hc⟩
  · have hcv := fun w => conv_q w 0 (.slice none 0 0) [] (World.ownsRow_nil _ _ _ _)
    go_enter Try.func5, Try.ntmps5
    go_wp2
    refine wp_loop_rounds 1 ?_
    rw [rounds_succ]
    go_wp2
    go_ret
    exact ⟨rfl, Below.refl _ _⟩
  · have HC : Hid (∀ j, j < l.length → w.cell? ⟨b, off + j, none⟩ = some (.string (l.getD j .empty))) := hc
    have HQ : Hid (∀ k, k < l.length → ∀ wx, Calls Try.prog 11 #[.string (l.getD k .empty)] wx fun e w' => e = .returned (.string (strB (quoteL (lsq (l.getD k .empty))))) ∧ Below wx.heap.size wx w') := fun k hk wx => rquote_c _ wx (by have := size_tot l k hk; omega)
    obtain ⟨n, hn⟩ : ∃ n, n = l.length := ⟨_, rfl⟩
    rw [← hn] at hlen HC HQ ⊢
    have HN : Hid (n = l.length) := hn
    clear hc hn
    go_enter Try.func5, Try.ntmps5
    go_wp2
    go_loopw [3, 4] (fun v i wr => ∃ k : Nat, i = .int .i64 k ∧ k ≤ n ∧ wr.ownsRow w.heap.size 5 1 v (ljoin (l.take k)).length (Lib.byteCells (ljoin (l.take k))) ∧ Below w.heap.size w wr) (fun _ i _ => n - (intOf i).toNat)
    case atStart => exact ⟨0, rfl, Nat.zero_le _, World.ownsRow_nil _ _ _ _, Below.refl _ _⟩
    case round =>
      obtain ⟨k, rfl, hkn, hown, hbw⟩ := hrel
      have hbs := hbw.size
      by_cases hk : k < n
      · have b1 : decide ((k : Int) < (n : Int)) = true := by simp; omega
        have kI : (k : Int) < (n : Int) := by omega
        have hc0 := HC.out k hk
        have hbl : b < w.heap.size := World.block_lt_of_cell? w _ hc0
        have hll := join_len (l.take k)
        have htk := tot_take l k
        have hsx := size_tot l k (by rw [← HN.out]; exact hk)
        have HJ : Hid (ljoin (l.take (k + 1)) = (if k = 0 then [] else ljoin (l.take k) ++ [32]) ++ quoteL (lsq (l.getD k .empty))) := ljoin_succ l k (by rw [← HN.out]; exact hk)
        have hql := quoteL_length (lsq (l.getD k .empty))
        rw [lsq_len] at hql
        have hcA : ∀ wx : World, Below w.heap.size w wx → wx.cell? ⟨b, off + k, none⟩ = some (.string (l.getD k .empty)) := fun wx hb => (hb.cell (p := ⟨b, off + k, none⟩) hbl).trans hc0
        obtain ⟨x, hx⟩ : ∃ x, x = l.getD k .empty := ⟨_, rfl⟩
        have HQK : Hid (∀ wx, Calls Try.prog 11 #[.string x] wx fun e w' => e = .returned (.string (strB (quoteL (lsq x)))) ∧ Below wx.heap.size wx w') := fun wx => by rw [hx]; exact HQ.out k hk wx
        rw [← hx] at hql HJ hsx hcA
        have HCA : Hid (∀ wx : World, Below w.heap.size w wx → wx.cell? ⟨b, off + k, none⟩ = some (.string x)) := hcA
        obtain ⟨q, hq⟩ : ∃ q, q = quoteL (lsq x) := ⟨_, rfl⟩
        rw [← hq] at HQK hql HJ
        obtain ⟨acc, hacc⟩ : ∃ acc, acc = ljoin (l.take k) := ⟨_, rfl⟩
        have hal : acc.length ≤ 4194400 := by rw [hacc]; show (joinL _).length ≤ _; omega
        have HA0 : Hid (k = 0 → acc = []) := fun e => by subst e; rw [hacc]; rfl
        rw [← hacc] at hown HJ
        have hqs : (strB q).size = q.length := by simp [strB, ByteArray.size]
        have hb1m : (acc.length + 1) + (strB q).size ≤ maxLen := by rw [hqs]; unfold maxLen; omega
        have hb2m : (acc.length + 1) + (strB q).size ≤ 140737488355328 := by rw [hqs]; omega
        clear hx hq hacc HQ hll htk hc0 hcA hqs
        by_cases h0 : k = 0
        · subst h0
          obtain rfl := HA0.out rfl
          have HJ0 : Hid (ljoin (l.take (0 + 1)) = q) := by show _ = _; have := HJ.out; simpa using this
          have hcw : wr.cell? ⟨b, off, none⟩ = some (.string x) := HCA.out wr hbw
          have hz1m : 0 + (strB q).size ≤ maxLen := by simp at hb1m ⊢; omega
          have hz2m : 0 + (strB q).size ≤ 140737488355328 := by simp at hb2m ⊢; omega
          clear HJ HA0
          go_wp2_with (first
            | (go_at_call 11; refine (HQK.out _).mono ?_; rintro e w2 ⟨rfl, bb2⟩; have s2 := bb2.size; have hown2 := own_below hown bb2 hbs)
            | (at_builtin; refine Lib.wpList_append_own_string _ rfl _ _ 27 9 rfl w.heap.size 5 i0 Try.underlying27 Try.underlying9 hi hz0 hz1 hz2 _ _ _ rfl hown2 (strB q) rfl hz1m hz2m (Nat.le_trans hbs s2) ?_; intro v' w4 hown' hgrow _; have R := app_str w hown2 (hbw.trans (bb2.mono hbs)) (Nat.le_trans hbs s2) hown' hgrow; clear hown' hgrow))
          go_roundw
          case rel => exact ⟨1, rfl, by omega, by have := HJ0.out; rw [show (0 + 1 : Nat) = 1 from rfl] at this; rw [this]; exact R.1, R.2⟩
          case measure => simp [intOf]; omega
        · have b2 : decide ((0 : Int) < (k : Int)) = true := by simp; omega
          have HJ0 : Hid (ljoin (l.take (k + 1)) = acc ++ [32] ++ q) := by show _ = _; have := HJ.out; rw [if_neg h0] at this; exact this
          clear HJ HA0
          go_wp2_with (at_builtin; refine wpList_append_own _ rfl _ _ 27 rfl w.heap.size 5 i0 (.int .u8 0) 1 1 Try.underlying27 hi hz0 hz1 hz2 rfl (by decide) _ _ _ rfl (hown.alloc _) ⟨wr.heap.size, 0, none⟩ 1 1 [.int .u8 32] rfl rfl ?c1 ?c2 ?c3 ?c4 ?c5 ?_)
          case c1 =>
            intro j u hj
            match j, hj with
            | 0, hj => simp at hj; subst hj; simp [Addr.add]
          case c2 => intro u hu; simp at hu; subst hu; rfl
          case c3 => unfold maxLen; omega
          case c4 => omega
          case c5 => simp; omega
          intro v1 w1 hown1 hgrow1 _
          obtain ⟨ho1, hbw1⟩ := app_one (c := 32) w _ hown hbw hbs hown1 hgrow1
          have s1 := hbw1.size
          have hcw : w1.cell? ⟨b, off + k, none⟩ = some (.string x) := HCA.out w1 hbw1
          have hz1m : (acc ++ [32]).length + (strB q).size ≤ maxLen := by simpa using hb1m
          have hz2m : (acc ++ [32]).length + (strB q).size ≤ 140737488355328 := by simpa using hb2m
          clear hown1 hgrow1 hown
          go_wp2_with (first
            | (go_at_call 11; refine (HQK.out _).mono ?_; rintro e w2 ⟨rfl, bb2⟩; have s2 := bb2.size; have hown2 := own_below ho1 bb2 s1)
            | (at_builtin; refine Lib.wpList_append_own_string _ rfl _ _ 27 9 rfl w.heap.size 5 i0 Try.underlying27 Try.underlying9 hi hz0 hz1 hz2 _ _ _ rfl hown2 (strB q) rfl hz1m hz2m (Nat.le_trans s1 s2) ?_; intro v' w4 hown' hgrow _; have R := app_str w hown2 (hbw1.trans (bb2.mono s1)) (Nat.le_trans s1 s2) hown' hgrow; clear hown' hgrow))
          go_roundw
          case rel => exact ⟨k + 1, by go_num, by omega, by rw [HJ0.out]; exact R.1, R.2⟩
          case measure => simp [intOf]; omega
      · obtain rfl : k = n := by omega
        have b1 : decide ((k : Int) < (k : Int)) = false := by simp
        have HE : Hid (ljoin (l.take k) = ljoin l) := by show _ = _; rw [HN.out, List.take_length]
        have hcv := conv_q wr w.heap.size u3 _ hown
        go_wp2
        go_ret
        exact ⟨by rw [HE.out]; rfl, hbw⟩
end Go.Proofs.Ythdgkghefjnfgac
