import Derived.Test.YtaeigacinefhnabDoorM7
import Derived.Test.YtaeigacinefhnabDoorM6
import Derived.Test.YtaeigacinefhnabDoorM3
import Derived.Test.YtaeigacinefhnabDoorM2
import Derived.Test.YtaeigacinefhnabDoorG1
import Derived.Test.YtaeigacinefhnabDoorG2

-- syms.Table behind its set-up, class 32: contract.
namespace Go.Proofs.YtaeigacinefhnabDoor
open Go.ChangeShapes Go.WideShapes Go.ChangeAt Go.RowKit
set_option linter.unusedVariables false
set_option maxRecDepth 100000
theorem secs_low_32 {B C g n cp : Nat} {w w' : World} {s : Nat → Sec} (h : SecsIn B w (.slice (some ⟨g, 0, none⟩) n cp) n s) (hg : g < C) (hb : Below C w w') : SecsIn B w' (.slice (some ⟨g, 0, none⟩) n cp) n s := by
  obtain ⟨ao, c, hv, hr⟩ := h
  refine ⟨ao, c, hv, fun hn => ?_⟩
  obtain ⟨g', cur, h1, h2, h3, h4⟩ := hr hn
  subst h1
  obtain rfl : g = g' := by
    have h := Value.slice.inj hv
    exact congrArg Addr.block (Option.some.inj h.1)
  exact ⟨g, cur, rfl, h2, (hb.block g hg).trans h3, h4⟩
set_option maxHeartbeats 4000000 in
theorem table_32 (b : ByteArray) (n : Nat) (s : Nat → Sec) (w : World) (hM : Magic w) (hb : b.size ≤ 1048576) (hE : identE b = 0) (hc : cls b = 32) (hn : n ≤ 26214) (hsb : SecB s) (hP : PSecs b n s 0) :
    Calls Tryd.prog 10 #[.string b] w fun r w' => ∃ v, r = .returned (.tuple #[v, .int .i64 (tabE b 32 (ord b) n s 0)]) ∧ w'.ownsRow w.heap.size 61 7 v (tabL b 32 (ord b) n s 0).length (symsV (tabL b 32 (ord b) n s 0)) ∧ Below w.heap.size w w' := by
  have hm : b.size ≤ maxLen := by unfold maxLen; omega
  have ho := ord_ok b hE
  have HI : Hid (∀ w : World, Magic w → Calls Tryd.prog 33 #[.string b] w fun r w' => r = .returned (.tuple #[.int .i64 32, .int .i64 (ord b), .int .i64 0]) ∧ Below w.heap.size w w') := fun w hM => by have h := ident_ok b w hM hm hE; rw [hc] at h; exact h
  have HP := Hid.mk' hP
  have HC : Hid (∀ w : World, Calls Tryd.prog 35 #[.int .i64 32] w fun r w' => r = .returned (.agg #[.int .u64 16, .int .i64 0, .int .i64 4, .int .i64 4, .int .i64 4, .int .i64 8, .int .i64 4, .int .i64 12, .int .i64 1, .int .i64 13, .int .i64 1, .int .i64 14, .int .i64 2]) ∧ Below w.heap.size w w') := columns_32
  generalize ord b = o at ho HI ⊢
  clear hE hc hP
  have HALL := Hid.mk' (And.intro hb (And.intro hn (And.intro hsb (And.intro hm ho))))
  clear hb hsb hm ho
  go_enter Tryd.func10, Tryd.ntmps10
  go_wp2_with (first
    | (go_at_call 33; refine (HI.out _ hM).mono ?_; rintro r w1 ⟨rfl, hb1⟩; have hM1 := hM.kept hb1)
    | (go_at_call 34; refine (HP.out _ hM1).mono ?_; rintro r w2 ⟨v, rfl, hS, hb2⟩; obtain ⟨ao, cp, rfl, hS0⟩ := hS)
    | (go_at_call 35; refine (HC.out _).mono ?_; rintro r w3 ⟨rfl, hb3⟩)
    | (refine wpList_store_row rfl _ _ _ rfl w3.heap.size (tabCells col32 o .empty .empty) rfl rfl _ _ (heap_alloc_new w3 _) rfl (by kernel_rfl) (by kernel_rfl) ?_))
  have hs1 := hb1.size
  have hs2 := hb2.size
  have hs3 := hb3.size
  have hWK : ((w3.alloc (.cells #[.int .u64 0, .int .i64 0, .int .i64 0, .int .i64 0, .int .i64 0, .int .i64 0, .int .i64 0, .int .i64 0, .int .i64 0, .int .i64 0, .int .i64 0, .int .i64 0, .int .i64 0, .int .i64 0, .string ⟨#[]⟩, .string ⟨#[]⟩] 75)).setRow w3.heap.size (tabCells col32 o .empty .empty)).heap[w3.heap.size]? = some (.cells (tabCells col32 o .empty .empty) 75 (0, 0)) := setRow_heap _ _ _ _ _ _ (heap_alloc_new w3 _)
  have hb23 : Below w2.heap.size w2 ((w3.alloc (.cells #[.int .u64 0, .int .i64 0, .int .i64 0, .int .i64 0, .int .i64 0, .int .i64 0, .int .i64 0, .int .i64 0, .int .i64 0, .int .i64 0, .int .i64 0, .int .i64 0, .int .i64 0, .int .i64 0, .string ⟨#[]⟩, .string ⟨#[]⟩] 75)).setRow w3.heap.size (tabCells col32 o .empty .empty)) := below_setRow (Below.alloc hb3 hs3 _) hs3 _
  have hWB : Below w.heap.size w ((w3.alloc (.cells #[.int .u64 0, .int .i64 0, .int .i64 0, .int .i64 0, .int .i64 0, .int .i64 0, .int .i64 0, .int .i64 0, .int .i64 0, .int .i64 0, .int .i64 0, .int .i64 0, .int .i64 0, .int .i64 0, .string ⟨#[]⟩, .string ⟨#[]⟩] 75)).setRow w3.heap.size (tabCells col32 o .empty .empty)) := (hb1.trans (hb2.mono hs1)).trans (hb23.mono (by omega))
  have hWS : SecsIn 0 ((w3.alloc (.cells #[.int .u64 0, .int .i64 0, .int .i64 0, .int .i64 0, .int .i64 0, .int .i64 0, .int .i64 0, .int .i64 0, .int .i64 0, .int .i64 0, .int .i64 0, .int .i64 0, .int .i64 0, .int .i64 0, .string ⟨#[]⟩, .string ⟨#[]⟩] 75)).setRow w3.heap.size (tabCells col32 o .empty .empty)) (.slice ao n cp) n s := SecsIn.kept ⟨ao, cp, rfl, fun h => by obtain ⟨g, cur, h1, _, h3, h4⟩ := hS0 h; exact ⟨g, cur, h1, Nat.zero_le _, h3, h4⟩⟩ hb23
  have hWZ : ((w3.alloc (.cells #[.int .u64 0, .int .i64 0, .int .i64 0, .int .i64 0, .int .i64 0, .int .i64 0, .int .i64 0, .int .i64 0, .int .i64 0, .int .i64 0, .int .i64 0, .int .i64 0, .int .i64 0, .int .i64 0, .string ⟨#[]⟩, .string ⟨#[]⟩] 75)).setRow w3.heap.size (tabCells col32 o .empty .empty)).heap.size = w3.heap.size + 1 := by rw [size_setRow, size_alloc]
  have hwK : w.heap.size ≤ w3.heap.size := by omega
  clear hb23 hb1 hb2 hb3 hS0 HI HP HC hM hM1 hs1 hs2 hs3
  generalize ((w3.alloc (.cells #[.int .u64 0, .int .i64 0, .int .i64 0, .int .i64 0, .int .i64 0, .int .i64 0, .int .i64 0, .int .i64 0, .int .i64 0, .int .i64 0, .int .i64 0, .int .i64 0, .int .i64 0, .int .i64 0, .string ⟨#[]⟩, .string ⟨#[]⟩] 75)).setRow w3.heap.size (tabCells col32 o .empty .empty)) = W at hWK hWB hWS hWZ ⊢
  generalize w3.heap.size = K at hWK hWZ hwK ⊢
  clear w3
  have hgK : ∀ g : Nat, ao = some ⟨g, 0, none⟩ → g < K + 1 ∨ n = 0 := by
    intro g hg
    obtain ⟨ao', cp', hv, hr⟩ := hWS
    obtain ⟨rfl, _, rfl⟩ : ao = ao' ∧ n = n ∧ cp = cp' := by simpa using hv
    by_cases h0 : n = 0
    · exact Or.inr h0
    · obtain ⟨g', cur, h1, _, h3, _⟩ := hr (by omega)
      rw [hg] at h1
      obtain rfl : g = g' := congrArg Addr.block (Option.some.inj h1)
      exact Or.inl (by rw [← hWZ]; exact (Array.getElem?_eq_some_iff.1 h3).1)
  have HGK := Hid.mk' hgK
  clear hgK
  go_loopw [8, 35] (fun u a wx => ∃ (i : Nat) (l : List Sym) (t0 n0 : ByteArray), i ≤ n ∧ a = .int .i64 i ∧ tabOf b 32 o n s i = .ok l ∧ wx.ownsRow (K + 1) 61 7 u l.length (symsV l) ∧ wx.heap[K]? = some (.cells (tabCells col32 o t0 n0) 75 (0, 0)) ∧ SecsIn 0 wx (.slice ao n cp) n s ∧ Below w.heap.size w wx ∧ K + 1 ≤ wx.heap.size) (fun _ a _ => n - (intOf a).toNat)
  case atStart => exact ⟨0, [], .empty, .empty, Nat.zero_le _, rfl, rfl, World.ownsRow_nil _ _ _ _, hWK, hWS, hWB, by omega⟩
  case round =>
    clear hWK hWS hWB hWZ W
    obtain ⟨i, l, t0, n0, hi, rfl, hl, hown, hR, hS, hB, hlt⟩ := hrel
    by_cases hin : i < n
    · obtain ⟨hb, hn', hsb, hm, ho⟩ := HALL.out
      obtain ⟨ao', cp', hv, hr⟩ := hS
      obtain ⟨rfl, _, rfl⟩ : ao = ao' ∧ n = n ∧ cp = cp' := by simpa using hv
      obtain ⟨g, cur, rfl, _, hg, hcur⟩ := hr (Nat.lt_of_le_of_lt (Nat.zero_le _) hin)
      have hS : SecsIn 0 wr (.slice (some ⟨g, 0, none⟩) n cp) n s := ⟨_, cp, rfl, fun _ => ⟨g, cur, rfl, Nat.zero_le _, hg, hcur⟩⟩
      have hxb := hsb i
      have hy := hcur i
      have hiI : (i : Int) < (n : Int) := Int.ofNat_lt.2 hin
      have hi0 : (0 : Int) ≤ (i : Int) := Int.natCast_nonneg _
      have hll := tab_length hb i l hl
      have hlm : l.length ≤ 1718091776 := by omega
      clear hr hcur hv hll
      cases hsx : s i with
      | mk x0 x1 x2 x3 x4 x5 x6 x7 =>
        rw [hsx] at hy hxb
        by_cases h2 : x1 = 2
        case neg =>
          have hnext := tab_at_not hl (by rw [hsx]; exact h2)
          have h2n : ((x1 : Int) != 2) = true := bne_iff_ne.2 (by omega)
          have a0 : wr.cell? ⟨g, i * 8, none⟩ = some (.int .i64 (x0 : Int)) := (cell_of_row _ _ _ _ _ _ hg).trans (hy 0 hin (by omega))
          have a1 : wr.cell? ⟨g, i * 8 + 1, none⟩ = some (.int .i64 (x1 : Int)) := (cell_of_row _ _ _ _ _ _ hg).trans (hy 1 hin (by omega))
          have a2 : wr.cell? ⟨g, i * 8 + 2, none⟩ = some (.int .u64 (x2 : Int)) := (cell_of_row _ _ _ _ _ _ hg).trans (hy 2 hin (by omega))
          have a3 : wr.cell? ⟨g, i * 8 + 3, none⟩ = some (.int .i64 (x3 : Int)) := (cell_of_row _ _ _ _ _ _ hg).trans (hy 3 hin (by omega))
          have a4 : wr.cell? ⟨g, i * 8 + 4, none⟩ = some (.int .i64 (x4 : Int)) := (cell_of_row _ _ _ _ _ _ hg).trans (hy 4 hin (by omega))
          have a5 : wr.cell? ⟨g, i * 8 + 5, none⟩ = some (.int .u64 (x5 : Int)) := (cell_of_row _ _ _ _ _ _ hg).trans (hy 5 hin (by omega))
          have a6 : wr.cell? ⟨g, i * 8 + 6, none⟩ = some (.int .u64 (x6 : Int)) := (cell_of_row _ _ _ _ _ _ hg).trans (hy 6 hin (by omega))
          have a7 : wr.cell? ⟨g, i * 8 + 7, none⟩ = some (.int .u64 (x7 : Int)) := (cell_of_row _ _ _ _ _ _ hg).trans (hy 7 hin (by omega))
          have HK : Hid ((wr.alloc (.cells #[.int .i64 (x0 : Int), .int .i64 (x1 : Int), .int .u64 (x2 : Int), .int .i64 (x3 : Int), .int .i64 (x4 : Int), .int .u64 (x5 : Int), .int .u64 (x6 : Int), .int .u64 (x7 : Int)] 77)).ownsRow (K + 1) 61 7 u8 l.length (symsV l) ∧ (wr.alloc (.cells #[.int .i64 (x0 : Int), .int .i64 (x1 : Int), .int .u64 (x2 : Int), .int .i64 (x3 : Int), .int .i64 (x4 : Int), .int .u64 (x5 : Int), .int .u64 (x6 : Int), .int .u64 (x7 : Int)] 77)).heap[K]? = some (.cells (tabCells col32 o t0 n0) 75 (0, 0)) ∧ SecsIn 0 (wr.alloc (.cells #[.int .i64 (x0 : Int), .int .i64 (x1 : Int), .int .u64 (x2 : Int), .int .i64 (x3 : Int), .int .i64 (x4 : Int), .int .u64 (x5 : Int), .int .u64 (x6 : Int), .int .u64 (x7 : Int)] 77)) (.slice (some ⟨g, 0, none⟩) n cp) n s ∧ Below w.heap.size w (wr.alloc (.cells #[.int .i64 (x0 : Int), .int .i64 (x1 : Int), .int .u64 (x2 : Int), .int .i64 (x3 : Int), .int .i64 (x4 : Int), .int .u64 (x5 : Int), .int .u64 (x6 : Int), .int .u64 (x7 : Int)] 77)) ∧ K + 1 ≤ (wr.alloc (.cells #[.int .i64 (x0 : Int), .int .i64 (x1 : Int), .int .u64 (x2 : Int), .int .i64 (x3 : Int), .int .i64 (x4 : Int), .int .u64 (x5 : Int), .int .u64 (x6 : Int), .int .u64 (x7 : Int)] 77)).heap.size) := ⟨hown.alloc _, (Below.heap_alloc wr _ K (by omega)).trans hR, hS.kept (Below.alloc (Below.refl _ _) (Nat.le_refl _) _), Below.alloc hB (by omega) _, by rw [size_alloc]; omega⟩
          have HNX := Hid.mk' hnext
          clear hnext hown hR hS hB hg hy hxb hl hsx h2 hb hm ho hsb hlm hn'
          go_wp2
          go_roundw
          case rel => exact ⟨i + 1, l, t0, n0, hin, by go_num, HNX.out, HK.out⟩
          case measure => clear HK HNX HALL; simp [intOf]; omega
        subst h2
        have h2s : (s i).ty = 2 := by rw [hsx]
        have a0 : wr.cell? ⟨g, i * 8, none⟩ = some (.int .i64 (x0 : Int)) := (cell_of_row _ _ _ _ _ _ hg).trans (hy 0 hin (by omega))
        have a1 : wr.cell? ⟨g, i * 8 + 1, none⟩ = some (.int .i64 2) := (cell_of_row _ _ _ _ _ _ hg).trans (hy 1 hin (by omega))
        have a2 : wr.cell? ⟨g, i * 8 + 2, none⟩ = some (.int .u64 (x2 : Int)) := (cell_of_row _ _ _ _ _ _ hg).trans (hy 2 hin (by omega))
        have a3 : wr.cell? ⟨g, i * 8 + 3, none⟩ = some (.int .i64 (x3 : Int)) := (cell_of_row _ _ _ _ _ _ hg).trans (hy 3 hin (by omega))
        have a4 : wr.cell? ⟨g, i * 8 + 4, none⟩ = some (.int .i64 (x4 : Int)) := (cell_of_row _ _ _ _ _ _ hg).trans (hy 4 hin (by omega))
        have a5 : wr.cell? ⟨g, i * 8 + 5, none⟩ = some (.int .u64 (x5 : Int)) := (cell_of_row _ _ _ _ _ _ hg).trans (hy 5 hin (by omega))
        have a6 : wr.cell? ⟨g, i * 8 + 6, none⟩ = some (.int .u64 (x6 : Int)) := (cell_of_row _ _ _ _ _ _ hg).trans (hy 6 hin (by omega))
        have a7 : wr.cell? ⟨g, i * 8 + 7, none⟩ = some (.int .u64 (x7 : Int)) := (cell_of_row _ _ _ _ _ _ hg).trans (hy 7 hin (by omega))
        have hbx : (wr.alloc (.cells #[.int .i64 (x0 : Int), .int .i64 2, .int .u64 (x2 : Int), .int .i64 (x3 : Int), .int .i64 (x4 : Int), .int .u64 (x5 : Int), .int .u64 (x6 : Int), .int .u64 (x7 : Int)] 77)).heap[wr.heap.size]? = some (.cells #[.int .i64 (x0 : Int), .int .i64 2, .int .u64 (x2 : Int), .int .i64 (x3 : Int), .int .i64 (x4 : Int), .int .u64 (x5 : Int), .int .u64 (x6 : Int), .int .u64 (x7 : Int)] 77 (0, 0)) := heap_alloc_new wr _
        have hRb : (wr.alloc (.cells #[.int .i64 (x0 : Int), .int .i64 2, .int .u64 (x2 : Int), .int .i64 (x3 : Int), .int .i64 (x4 : Int), .int .u64 (x5 : Int), .int .u64 (x6 : Int), .int .u64 (x7 : Int)] 77)).heap[K]? = some (.cells (tabCells col32 o t0 n0) 75 (0, 0)) := (Below.heap_alloc wr _ K (by omega)).trans hR
        have hSb : SecsIn 0 (wr.alloc (.cells #[.int .i64 (x0 : Int), .int .i64 2, .int .u64 (x2 : Int), .int .i64 (x3 : Int), .int .i64 (x4 : Int), .int .u64 (x5 : Int), .int .u64 (x6 : Int), .int .u64 (x7 : Int)] 77)) (.slice (some ⟨g, 0, none⟩) n cp) n s := hS.kept (Below.alloc (Below.refl _ _) (Nat.le_refl _) _)
        have hOb : (wr.alloc (.cells #[.int .i64 (x0 : Int), .int .i64 2, .int .u64 (x2 : Int), .int .i64 (x3 : Int), .int .i64 (x4 : Int), .int .u64 (x5 : Int), .int .u64 (x6 : Int), .int .u64 (x7 : Int)] 77)).ownsRow (K + 1) 61 7 u8 l.length (symsV l) := hown.alloc _
        have hBb : Below w.heap.size w (wr.alloc (.cells #[.int .i64 (x0 : Int), .int .i64 2, .int .u64 (x2 : Int), .int .i64 (x3 : Int), .int .i64 (x4 : Int), .int .u64 (x5 : Int), .int .u64 (x6 : Int), .int .u64 (x7 : Int)] 77)) := Below.alloc hB (by omega) _
        have hZb : (wr.alloc (.cells #[.int .i64 (x0 : Int), .int .i64 2, .int .u64 (x2 : Int), .int .i64 (x3 : Int), .int .i64 (x4 : Int), .int .u64 (x5 : Int), .int .u64 (x6 : Int), .int .u64 (x7 : Int)] 77)).heap.size = wr.heap.size + 1 := size_alloc _ _
        have HO := Hid.mk' (opened_32 b t0 n0 K 0 n o _ s ⟨x0, 2, x2, x3, x4, x5, x6, x7⟩ (wr.alloc (.cells #[.int .i64 (x0 : Int), .int .i64 2, .int .u64 (x2 : Int), .int .i64 (x3 : Int), .int .i64 (x4 : Int), .int .u64 (x5 : Int), .int .u64 (x6 : Int), .int .u64 (x7 : Int)] 77)) hRb hSb hn' hsb hxb hb)
        have hbK : Below w.heap.size w (wr.alloc (.cells #[.int .i64 (x0 : Int), .int .i64 2, .int .u64 (x2 : Int), .int .i64 (x3 : Int), .int .i64 (x4 : Int), .int .u64 (x5 : Int), .int .u64 (x6 : Int), .int .u64 (x7 : Int)] 77)) ∧ w.heap.size ≤ K ∧ K < (wr.alloc (.cells #[.int .i64 (x0 : Int), .int .i64 2, .int .u64 (x2 : Int), .int .i64 (x3 : Int), .int .i64 (x4 : Int), .int .u64 (x5 : Int), .int .u64 (x6 : Int), .int .u64 (x7 : Int)] 77)).heap.size := ⟨hBb, hwK, by omega⟩
        have hSc : ∀ w4 : World, Kq K (wr.alloc (.cells #[.int .i64 (x0 : Int), .int .i64 2, .int .u64 (x2 : Int), .int .i64 (x3 : Int), .int .i64 (x4 : Int), .int .u64 (x5 : Int), .int .u64 (x6 : Int), .int .u64 (x7 : Int)] 77)) w4 → SecsIn 0 w4 (.slice (some ⟨g, 0, none⟩) n cp) n s := fun w4 hq => secs_kq hq hSb hRb (by decide)
        have hgg : g < K + 1 := (HGK.out g rfl).resolve_right (by omega)
        clear hown hR hS hB hg hy hxb hm hRb hSb hBb
        cases hop : openOf b 32 n s ⟨x0, 2, x2, x3, x4, x5, x6, x7⟩ with
        | error e =>
          have hone : oneOf b 32 o n s (s i) = .error e := by rw [hsx]; exact one_err hop
          have hT := tab_err (tab_at_err hl hin h2s hone)
          have he0 := open_ne hop
          have HO' : Hid (e ≠ 0 ∧ Calls Tryd.prog 36 #[.pointer (some ⟨K, 0, none⟩), .string b, .slice (some ⟨g, 0, none⟩) n cp, .agg #[.int .i64 (x0 : Int), .int .i64 2, .int .u64 (x2 : Int), .int .i64 (x3 : Int), .int .i64 (x4 : Int), .int .u64 (x5 : Int), .int .u64 (x6 : Int), .int .u64 (x7 : Int)]] (wr.alloc (.cells #[.int .i64 (x0 : Int), .int .i64 2, .int .u64 (x2 : Int), .int .i64 (x3 : Int), .int .i64 (x4 : Int), .int .u64 (x5 : Int), .int .u64 (x6 : Int), .int .u64 (x7 : Int)] 77)) fun r w' => r = .returned (.int .i64 e) ∧ Kq K (wr.alloc (.cells #[.int .i64 (x0 : Int), .int .i64 2, .int .u64 (x2 : Int), .int .i64 (x3 : Int), .int .i64 (x4 : Int), .int .u64 (x5 : Int), .int .u64 (x6 : Int), .int .u64 (x7 : Int)] 77)) w') := ⟨he0, HO.out.mono fun r w' ⟨h1, h2⟩ => by
            rcases h2 with ⟨e', _, h3, h4⟩ | ⟨t, nm, h3, _⟩
            · rw [hop] at h3
              obtain rfl := Except.error.inj h3
              exact ⟨h4, h1⟩
            · rw [hop] at h3; cases h3⟩
          have he : (e != 0) = true := bne_iff_ne.2 HO'.out.1
          have HT := Hid.mk' hT
          have HBK := Hid.mk' hbK
          clear hT hone hop hl hsx hOb HO hsb hb ho hlm hn' hbK h2s he0 hSc hgg
          go_wp2_with (first
            | (refine wpList_load_row rfl _ _ rfl wr.heap.size rfl _ _ _ _ hbx Tryd.underlying77 rfl (by kernel_rfl) ?_)
            | (go_at_call 36; refine (HO'.out.2).mono ?_; rintro r w4 ⟨rfl, hq⟩))
          go_ret2
          rw [HT.out.1, HT.out.2]
          exact ⟨_, rfl, World.ownsRow_nil _ _ _ _, HBK.out.1.trans ((hq.below (Nat.le_refl K) (Nat.le_of_lt HBK.out.2.2)).mono HBK.out.2.1)⟩
        | ok tn =>
          obtain ⟨t, names⟩ := tn
          obtain ⟨hz1, hz2, hz3⟩ := open_size hop rfl hb
          have hzL : t.size = t.size / 16 * 16 := by
            have h3 : t.size % 16 = 0 := hz3
            omega
          have HO' : Hid (Calls Tryd.prog 36 #[.pointer (some ⟨K, 0, none⟩), .string b, .slice (some ⟨g, 0, none⟩) n cp, .agg #[.int .i64 (x0 : Int), .int .i64 2, .int .u64 (x2 : Int), .int .i64 (x3 : Int), .int .i64 (x4 : Int), .int .u64 (x5 : Int), .int .u64 (x6 : Int), .int .u64 (x7 : Int)]] (wr.alloc (.cells #[.int .i64 (x0 : Int), .int .i64 2, .int .u64 (x2 : Int), .int .i64 (x3 : Int), .int .i64 (x4 : Int), .int .u64 (x5 : Int), .int .u64 (x6 : Int), .int .u64 (x7 : Int)] 77)) fun r w' => r = .returned (.int .i64 0) ∧ Kq K (wr.alloc (.cells #[.int .i64 (x0 : Int), .int .i64 2, .int .u64 (x2 : Int), .int .i64 (x3 : Int), .int .i64 (x4 : Int), .int .u64 (x5 : Int), .int .u64 (x6 : Int), .int .u64 (x7 : Int)] 77)) w' ∧ w'.heap[K]? = some (.cells (tabCells col32 o t names) 75 (0, 0))) := HO.out.mono fun r w' ⟨h1, h2⟩ => by
            rcases h2 with ⟨e', _, h3, h4⟩ | ⟨t', nm', h3, h4, h5⟩
            · rw [hop] at h3; cases h3
            · rw [hop] at h3
              have h6 := Except.ok.inj h3
              obtain ⟨rfl, rfl⟩ := Prod.mk.inj h6
              exact ⟨h4, h1, h5⟩
          have HA : Hid (∀ w4 : World, Kq K (wr.alloc (.cells #[.int .i64 (x0 : Int), .int .i64 2, .int .u64 (x2 : Int), .int .i64 (x3 : Int), .int .i64 (x4 : Int), .int .u64 (x5 : Int), .int .u64 (x6 : Int), .int .u64 (x7 : Int)] 77)) w4 → w4.heap[K]? = some (.cells (tabCells col32 o t names) 75 (0, 0)) → Calls Tryd.prog 37 #[.pointer (some ⟨K, 0, none⟩), u8] w4 (Appended32 o t names (K + 1) l.length (symsV l) w4)) := fun w4 hq hr => appendTo_32 t names K l.length (K + 1) (t.size / 16) o u8 _ w4 hr (Nat.lt_succ_self K) (Array.getElem?_eq_some_iff.1 hr).1 (hq.own hOb (Nat.lt_succ_self K)) hlm hz1 hz2 ho hzL
          cases hsy : symsOf 32 o t names (t.size / 16) with
          | none =>
            have hone : oneOf b 32 o n s (s i) = .error 56 := by rw [hsx]; exact one_none hop hsy
            have hT := tab_err (tab_at_err hl hin h2s hone)
            have HA' : Hid (∀ w4 : World, Kq K (wr.alloc (.cells #[.int .i64 (x0 : Int), .int .i64 2, .int .u64 (x2 : Int), .int .i64 (x3 : Int), .int .i64 (x4 : Int), .int .u64 (x5 : Int), .int .u64 (x6 : Int), .int .u64 (x7 : Int)] 77)) w4 → w4.heap[K]? = some (.cells (tabCells col32 o t names) 75 (0, 0)) → Calls Tryd.prog 37 #[.pointer (some ⟨K, 0, none⟩), u8] w4 fun r w' => r = .returned (.tuple #[.slice none 0 0, .int .i64 56]) ∧ Below (K + 1) w4 w') := fun w4 hq hr => (HA.out w4 hq hr).mono fun r w' ⟨h1, h2⟩ => by
              rcases h2 with ⟨l', v', h3, _⟩ | ⟨_, h4⟩
              · rw [hsy] at h3; cases h3
              · exact ⟨h4, h1⟩
            have HT := Hid.mk' hT
            have HBK := Hid.mk' hbK
            clear hT hone hop hl hsx hOb HO HA hsb hb ho hlm hn' hbK h2s hz1 hz2 hz3 hzL hsy hSc hgg
            go_wp2_with (first
              | (refine wpList_load_row rfl _ _ rfl wr.heap.size rfl _ _ _ _ hbx Tryd.underlying77 rfl (by kernel_rfl) ?_)
              | (go_at_call 36; refine (HO'.out).mono ?_; rintro r w4 ⟨rfl, hq, hr4⟩; clear hbx)
              | (go_at_call 37; refine (HA'.out _ hq hr4).mono ?_; rintro r w5 ⟨rfl, hb5⟩))
            go_ret2
            rw [HT.out.1, HT.out.2]
            exact ⟨_, rfl, World.ownsRow_nil _ _ _ _, (HBK.out.1.trans ((hq.below (Nat.le_refl K) (Nat.le_of_lt HBK.out.2.2)).mono HBK.out.2.1)).trans (hb5.mono (by have := HBK.out.2.1; omega))⟩
          | some m =>
            have hone : oneOf b 32 o n s (s i) = .ok m := by rw [hsx]; exact one_some hop hsy
            have hnext := tab_at_ok hl h2s hone
            have HA' : Hid (∀ w4 : World, Kq K (wr.alloc (.cells #[.int .i64 (x0 : Int), .int .i64 2, .int .u64 (x2 : Int), .int .i64 (x3 : Int), .int .i64 (x4 : Int), .int .u64 (x5 : Int), .int .u64 (x6 : Int), .int .u64 (x7 : Int)] 77)) w4 → w4.heap[K]? = some (.cells (tabCells col32 o t names) 75 (0, 0)) → Calls Tryd.prog 37 #[.pointer (some ⟨K, 0, none⟩), u8] w4 fun r w' => ∃ v, r = .returned (.tuple #[v, .int .i64 0]) ∧ w'.ownsRow (K + 1) 61 7 v (l ++ m).length (symsV (l ++ m)) ∧ Below (K + 1) w4 w') := fun w4 hq hr => (HA.out w4 hq hr).mono fun r w' ⟨h1, h2⟩ => by
              rcases h2 with ⟨l', v', h3, h4, h5⟩ | ⟨h3, _⟩
              · rw [hsy] at h3
                obtain rfl := Option.some.inj h3
                exact ⟨v', h4, by rw [List.length_append, symsV_append]; exact h5, h1⟩
              · rw [hsy] at h3; cases h3
            have HNX := Hid.mk' hnext
            have HBK := Hid.mk' (And.intro hbK (And.intro hSc hgg))
            clear hnext hone hop hl hsx hOb HO HA hsb hb ho hlm hn' hbK h2s hz1 hz2 hz3 hzL hsy hSc hgg
            go_wp2_with (first
              | (refine wpList_load_row rfl _ _ rfl wr.heap.size rfl _ _ _ _ hbx Tryd.underlying77 rfl (by kernel_rfl) ?_)
              | (go_at_call 36; refine (HO'.out).mono ?_; rintro r w4 ⟨rfl, hq, hr4⟩; clear hbx)
              | (go_at_call 37; refine (HA'.out _ hq hr4).mono ?_; rintro r w5 ⟨v5, rfl, ho5, hb5⟩))
            obtain ⟨⟨hB1, hK1, hK2⟩, hSc, hgg⟩ := HBK.out
            have HF : Hid (w5.ownsRow (K + 1) 61 7 v5 (l ++ m).length (symsV (l ++ m)) ∧ w5.heap[K]? = some (.cells (tabCells col32 o t names) 75 (0, 0)) ∧ SecsIn 0 w5 (.slice (some ⟨g, 0, none⟩) n cp) n s ∧ Below w.heap.size w w5 ∧ K + 1 ≤ w5.heap.size) := ⟨ho5, (hb5.block K (Nat.lt_succ_self K)).trans hr4, secs_low_32 (hSc w4 hq) hgg hb5, (hB1.trans ((hq.below (Nat.le_refl K) (Nat.le_of_lt hK2)).mono hK1)).trans (hb5.mono (by omega)), Nat.le_trans (Nat.le_trans hK2 hq.size) hb5.size⟩
            clear hB1 hK1 hK2 hSc hgg ho5 hr4 hb5 hq HBK
            go_roundw
            case rel => exact ⟨i + 1, l ++ m, t, names, hin, by go_num, HNX.out, HF.out⟩
            case measure => clear HF HNX HALL HA' HO'; simp [intOf]; omega
    · obtain rfl : i = n := Nat.le_antisymm hi (Nat.not_lt.1 hin)
      have HT := Hid.mk' (tab_ok hl)
      have hiI : ¬ (i : Int) < (i : Int) := Int.lt_irrefl _
      go_wp2
      go_ret2
      rw [HT.out.1, HT.out.2]
      exact ⟨_, rfl, own_base hown (by omega), hB⟩
end Go.Proofs.YtaeigacinefhnabDoor

-- syms.Table behind its set-up, class 64: contract.
namespace Go.Proofs.YtaeigacinefhnabDoor
open Go.ChangeShapes Go.WideShapes Go.ChangeAt Go.RowKit
set_option linter.unusedVariables false
set_option maxRecDepth 100000
theorem secs_low_64 {B C g n cp : Nat} {w w' : World} {s : Nat → Sec} (h : SecsIn B w (.slice (some ⟨g, 0, none⟩) n cp) n s) (hg : g < C) (hb : Below C w w') : SecsIn B w' (.slice (some ⟨g, 0, none⟩) n cp) n s := by
  obtain ⟨ao, c, hv, hr⟩ := h
  refine ⟨ao, c, hv, fun hn => ?_⟩
  obtain ⟨g', cur, h1, h2, h3, h4⟩ := hr hn
  subst h1
  obtain rfl : g = g' := by
    have h := Value.slice.inj hv
    exact congrArg Addr.block (Option.some.inj h.1)
  exact ⟨g, cur, rfl, h2, (hb.block g hg).trans h3, h4⟩
set_option maxHeartbeats 4000000 in
theorem table_64 (b : ByteArray) (n : Nat) (s : Nat → Sec) (w : World) (hM : Magic w) (hb : b.size ≤ 1048576) (hE : identE b = 0) (hc : cls b = 64) (hn : n ≤ 26214) (hsb : SecB s) (hP : PSecs b n s 0) :
    Calls Tryd.prog 10 #[.string b] w fun r w' => ∃ v, r = .returned (.tuple #[v, .int .i64 (tabE b 64 (ord b) n s 0)]) ∧ w'.ownsRow w.heap.size 61 7 v (tabL b 64 (ord b) n s 0).length (symsV (tabL b 64 (ord b) n s 0)) ∧ Below w.heap.size w w' := by
  have hm : b.size ≤ maxLen := by unfold maxLen; omega
  have ho := ord_ok b hE
  have HI : Hid (∀ w : World, Magic w → Calls Tryd.prog 33 #[.string b] w fun r w' => r = .returned (.tuple #[.int .i64 64, .int .i64 (ord b), .int .i64 0]) ∧ Below w.heap.size w w') := fun w hM => by have h := ident_ok b w hM hm hE; rw [hc] at h; exact h
  have HP := Hid.mk' hP
  have HC : Hid (∀ w : World, Calls Tryd.prog 35 #[.int .i64 64] w fun r w' => r = .returned (.agg #[.int .u64 24, .int .i64 0, .int .i64 4, .int .i64 8, .int .i64 8, .int .i64 16, .int .i64 8, .int .i64 4, .int .i64 1, .int .i64 5, .int .i64 1, .int .i64 6, .int .i64 2]) ∧ Below w.heap.size w w') := columns_64
  generalize ord b = o at ho HI ⊢
  clear hE hc hP
  have HALL := Hid.mk' (And.intro hb (And.intro hn (And.intro hsb (And.intro hm ho))))
  clear hb hsb hm ho
  go_enter Tryd.func10, Tryd.ntmps10
  go_wp2_with (first
    | (go_at_call 33; refine (HI.out _ hM).mono ?_; rintro r w1 ⟨rfl, hb1⟩; have hM1 := hM.kept hb1)
    | (go_at_call 34; refine (HP.out _ hM1).mono ?_; rintro r w2 ⟨v, rfl, hS, hb2⟩; obtain ⟨ao, cp, rfl, hS0⟩ := hS)
    | (go_at_call 35; refine (HC.out _).mono ?_; rintro r w3 ⟨rfl, hb3⟩)
    | (refine wpList_store_row rfl _ _ _ rfl w3.heap.size (tabCells col64 o .empty .empty) rfl rfl _ _ (heap_alloc_new w3 _) rfl (by kernel_rfl) (by kernel_rfl) ?_))
  have hs1 := hb1.size
  have hs2 := hb2.size
  have hs3 := hb3.size
  have hWK : ((w3.alloc (.cells #[.int .u64 0, .int .i64 0, .int .i64 0, .int .i64 0, .int .i64 0, .int .i64 0, .int .i64 0, .int .i64 0, .int .i64 0, .int .i64 0, .int .i64 0, .int .i64 0, .int .i64 0, .int .i64 0, .string ⟨#[]⟩, .string ⟨#[]⟩] 75)).setRow w3.heap.size (tabCells col64 o .empty .empty)).heap[w3.heap.size]? = some (.cells (tabCells col64 o .empty .empty) 75 (0, 0)) := setRow_heap _ _ _ _ _ _ (heap_alloc_new w3 _)
  have hb23 : Below w2.heap.size w2 ((w3.alloc (.cells #[.int .u64 0, .int .i64 0, .int .i64 0, .int .i64 0, .int .i64 0, .int .i64 0, .int .i64 0, .int .i64 0, .int .i64 0, .int .i64 0, .int .i64 0, .int .i64 0, .int .i64 0, .int .i64 0, .string ⟨#[]⟩, .string ⟨#[]⟩] 75)).setRow w3.heap.size (tabCells col64 o .empty .empty)) := below_setRow (Below.alloc hb3 hs3 _) hs3 _
  have hWB : Below w.heap.size w ((w3.alloc (.cells #[.int .u64 0, .int .i64 0, .int .i64 0, .int .i64 0, .int .i64 0, .int .i64 0, .int .i64 0, .int .i64 0, .int .i64 0, .int .i64 0, .int .i64 0, .int .i64 0, .int .i64 0, .int .i64 0, .string ⟨#[]⟩, .string ⟨#[]⟩] 75)).setRow w3.heap.size (tabCells col64 o .empty .empty)) := (hb1.trans (hb2.mono hs1)).trans (hb23.mono (by omega))
  have hWS : SecsIn 0 ((w3.alloc (.cells #[.int .u64 0, .int .i64 0, .int .i64 0, .int .i64 0, .int .i64 0, .int .i64 0, .int .i64 0, .int .i64 0, .int .i64 0, .int .i64 0, .int .i64 0, .int .i64 0, .int .i64 0, .int .i64 0, .string ⟨#[]⟩, .string ⟨#[]⟩] 75)).setRow w3.heap.size (tabCells col64 o .empty .empty)) (.slice ao n cp) n s := SecsIn.kept ⟨ao, cp, rfl, fun h => by obtain ⟨g, cur, h1, _, h3, h4⟩ := hS0 h; exact ⟨g, cur, h1, Nat.zero_le _, h3, h4⟩⟩ hb23
  have hWZ : ((w3.alloc (.cells #[.int .u64 0, .int .i64 0, .int .i64 0, .int .i64 0, .int .i64 0, .int .i64 0, .int .i64 0, .int .i64 0, .int .i64 0, .int .i64 0, .int .i64 0, .int .i64 0, .int .i64 0, .int .i64 0, .string ⟨#[]⟩, .string ⟨#[]⟩] 75)).setRow w3.heap.size (tabCells col64 o .empty .empty)).heap.size = w3.heap.size + 1 := by rw [size_setRow, size_alloc]
  have hwK : w.heap.size ≤ w3.heap.size := by omega
  clear hb23 hb1 hb2 hb3 hS0 HI HP HC hM hM1 hs1 hs2 hs3
  generalize ((w3.alloc (.cells #[.int .u64 0, .int .i64 0, .int .i64 0, .int .i64 0, .int .i64 0, .int .i64 0, .int .i64 0, .int .i64 0, .int .i64 0, .int .i64 0, .int .i64 0, .int .i64 0, .int .i64 0, .int .i64 0, .string ⟨#[]⟩, .string ⟨#[]⟩] 75)).setRow w3.heap.size (tabCells col64 o .empty .empty)) = W at hWK hWB hWS hWZ ⊢
  generalize w3.heap.size = K at hWK hWZ hwK ⊢
  clear w3
  have hgK : ∀ g : Nat, ao = some ⟨g, 0, none⟩ → g < K + 1 ∨ n = 0 := by
    intro g hg
    obtain ⟨ao', cp', hv, hr⟩ := hWS
    obtain ⟨rfl, _, rfl⟩ : ao = ao' ∧ n = n ∧ cp = cp' := by simpa using hv
    by_cases h0 : n = 0
    · exact Or.inr h0
    · obtain ⟨g', cur, h1, _, h3, _⟩ := hr (by omega)
      rw [hg] at h1
      obtain rfl : g = g' := congrArg Addr.block (Option.some.inj h1)
      exact Or.inl (by rw [← hWZ]; exact (Array.getElem?_eq_some_iff.1 h3).1)
  have HGK := Hid.mk' hgK
  clear hgK
  go_loopw [8, 35] (fun u a wx => ∃ (i : Nat) (l : List Sym) (t0 n0 : ByteArray), i ≤ n ∧ a = .int .i64 i ∧ tabOf b 64 o n s i = .ok l ∧ wx.ownsRow (K + 1) 61 7 u l.length (symsV l) ∧ wx.heap[K]? = some (.cells (tabCells col64 o t0 n0) 75 (0, 0)) ∧ SecsIn 0 wx (.slice ao n cp) n s ∧ Below w.heap.size w wx ∧ K + 1 ≤ wx.heap.size) (fun _ a _ => n - (intOf a).toNat)
  case atStart => exact ⟨0, [], .empty, .empty, Nat.zero_le _, rfl, rfl, World.ownsRow_nil _ _ _ _, hWK, hWS, hWB, by omega⟩
  case round =>
    clear hWK hWS hWB hWZ W
    obtain ⟨i, l, t0, n0, hi, rfl, hl, hown, hR, hS, hB, hlt⟩ := hrel
    by_cases hin : i < n
    · obtain ⟨hb, hn', hsb, hm, ho⟩ := HALL.out
      obtain ⟨ao', cp', hv, hr⟩ := hS
      obtain ⟨rfl, _, rfl⟩ : ao = ao' ∧ n = n ∧ cp = cp' := by simpa using hv
      obtain ⟨g, cur, rfl, _, hg, hcur⟩ := hr (Nat.lt_of_le_of_lt (Nat.zero_le _) hin)
      have hS : SecsIn 0 wr (.slice (some ⟨g, 0, none⟩) n cp) n s := ⟨_, cp, rfl, fun _ => ⟨g, cur, rfl, Nat.zero_le _, hg, hcur⟩⟩
      have hxb := hsb i
      have hy := hcur i
      have hiI : (i : Int) < (n : Int) := Int.ofNat_lt.2 hin
      have hi0 : (0 : Int) ≤ (i : Int) := Int.natCast_nonneg _
      have hll := tab_length hb i l hl
      have hlm : l.length ≤ 1718091776 := by omega
      clear hr hcur hv hll
      cases hsx : s i with
      | mk x0 x1 x2 x3 x4 x5 x6 x7 =>
        rw [hsx] at hy hxb
        by_cases h2 : x1 = 2
        case neg =>
          have hnext := tab_at_not hl (by rw [hsx]; exact h2)
          have h2n : ((x1 : Int) != 2) = true := bne_iff_ne.2 (by omega)
          have a0 : wr.cell? ⟨g, i * 8, none⟩ = some (.int .i64 (x0 : Int)) := (cell_of_row _ _ _ _ _ _ hg).trans (hy 0 hin (by omega))
          have a1 : wr.cell? ⟨g, i * 8 + 1, none⟩ = some (.int .i64 (x1 : Int)) := (cell_of_row _ _ _ _ _ _ hg).trans (hy 1 hin (by omega))
          have a2 : wr.cell? ⟨g, i * 8 + 2, none⟩ = some (.int .u64 (x2 : Int)) := (cell_of_row _ _ _ _ _ _ hg).trans (hy 2 hin (by omega))
          have a3 : wr.cell? ⟨g, i * 8 + 3, none⟩ = some (.int .i64 (x3 : Int)) := (cell_of_row _ _ _ _ _ _ hg).trans (hy 3 hin (by omega))
          have a4 : wr.cell? ⟨g, i * 8 + 4, none⟩ = some (.int .i64 (x4 : Int)) := (cell_of_row _ _ _ _ _ _ hg).trans (hy 4 hin (by omega))
          have a5 : wr.cell? ⟨g, i * 8 + 5, none⟩ = some (.int .u64 (x5 : Int)) := (cell_of_row _ _ _ _ _ _ hg).trans (hy 5 hin (by omega))
          have a6 : wr.cell? ⟨g, i * 8 + 6, none⟩ = some (.int .u64 (x6 : Int)) := (cell_of_row _ _ _ _ _ _ hg).trans (hy 6 hin (by omega))
          have a7 : wr.cell? ⟨g, i * 8 + 7, none⟩ = some (.int .u64 (x7 : Int)) := (cell_of_row _ _ _ _ _ _ hg).trans (hy 7 hin (by omega))
          have HK : Hid ((wr.alloc (.cells #[.int .i64 (x0 : Int), .int .i64 (x1 : Int), .int .u64 (x2 : Int), .int .i64 (x3 : Int), .int .i64 (x4 : Int), .int .u64 (x5 : Int), .int .u64 (x6 : Int), .int .u64 (x7 : Int)] 77)).ownsRow (K + 1) 61 7 u8 l.length (symsV l) ∧ (wr.alloc (.cells #[.int .i64 (x0 : Int), .int .i64 (x1 : Int), .int .u64 (x2 : Int), .int .i64 (x3 : Int), .int .i64 (x4 : Int), .int .u64 (x5 : Int), .int .u64 (x6 : Int), .int .u64 (x7 : Int)] 77)).heap[K]? = some (.cells (tabCells col64 o t0 n0) 75 (0, 0)) ∧ SecsIn 0 (wr.alloc (.cells #[.int .i64 (x0 : Int), .int .i64 (x1 : Int), .int .u64 (x2 : Int), .int .i64 (x3 : Int), .int .i64 (x4 : Int), .int .u64 (x5 : Int), .int .u64 (x6 : Int), .int .u64 (x7 : Int)] 77)) (.slice (some ⟨g, 0, none⟩) n cp) n s ∧ Below w.heap.size w (wr.alloc (.cells #[.int .i64 (x0 : Int), .int .i64 (x1 : Int), .int .u64 (x2 : Int), .int .i64 (x3 : Int), .int .i64 (x4 : Int), .int .u64 (x5 : Int), .int .u64 (x6 : Int), .int .u64 (x7 : Int)] 77)) ∧ K + 1 ≤ (wr.alloc (.cells #[.int .i64 (x0 : Int), .int .i64 (x1 : Int), .int .u64 (x2 : Int), .int .i64 (x3 : Int), .int .i64 (x4 : Int), .int .u64 (x5 : Int), .int .u64 (x6 : Int), .int .u64 (x7 : Int)] 77)).heap.size) := ⟨hown.alloc _, (Below.heap_alloc wr _ K (by omega)).trans hR, hS.kept (Below.alloc (Below.refl _ _) (Nat.le_refl _) _), Below.alloc hB (by omega) _, by rw [size_alloc]; omega⟩
          have HNX := Hid.mk' hnext
          clear hnext hown hR hS hB hg hy hxb hl hsx h2 hb hm ho hsb hlm hn'
          go_wp2
          go_roundw
          case rel => exact ⟨i + 1, l, t0, n0, hin, by go_num, HNX.out, HK.out⟩
          case measure => clear HK HNX HALL; simp [intOf]; omega
        subst h2
        have h2s : (s i).ty = 2 := by rw [hsx]
        have a0 : wr.cell? ⟨g, i * 8, none⟩ = some (.int .i64 (x0 : Int)) := (cell_of_row _ _ _ _ _ _ hg).trans (hy 0 hin (by omega))
        have a1 : wr.cell? ⟨g, i * 8 + 1, none⟩ = some (.int .i64 2) := (cell_of_row _ _ _ _ _ _ hg).trans (hy 1 hin (by omega))
        have a2 : wr.cell? ⟨g, i * 8 + 2, none⟩ = some (.int .u64 (x2 : Int)) := (cell_of_row _ _ _ _ _ _ hg).trans (hy 2 hin (by omega))
        have a3 : wr.cell? ⟨g, i * 8 + 3, none⟩ = some (.int .i64 (x3 : Int)) := (cell_of_row _ _ _ _ _ _ hg).trans (hy 3 hin (by omega))
        have a4 : wr.cell? ⟨g, i * 8 + 4, none⟩ = some (.int .i64 (x4 : Int)) := (cell_of_row _ _ _ _ _ _ hg).trans (hy 4 hin (by omega))
        have a5 : wr.cell? ⟨g, i * 8 + 5, none⟩ = some (.int .u64 (x5 : Int)) := (cell_of_row _ _ _ _ _ _ hg).trans (hy 5 hin (by omega))
        have a6 : wr.cell? ⟨g, i * 8 + 6, none⟩ = some (.int .u64 (x6 : Int)) := (cell_of_row _ _ _ _ _ _ hg).trans (hy 6 hin (by omega))
        have a7 : wr.cell? ⟨g, i * 8 + 7, none⟩ = some (.int .u64 (x7 : Int)) := (cell_of_row _ _ _ _ _ _ hg).trans (hy 7 hin (by omega))
        have hbx : (wr.alloc (.cells #[.int .i64 (x0 : Int), .int .i64 2, .int .u64 (x2 : Int), .int .i64 (x3 : Int), .int .i64 (x4 : Int), .int .u64 (x5 : Int), .int .u64 (x6 : Int), .int .u64 (x7 : Int)] 77)).heap[wr.heap.size]? = some (.cells #[.int .i64 (x0 : Int), .int .i64 2, .int .u64 (x2 : Int), .int .i64 (x3 : Int), .int .i64 (x4 : Int), .int .u64 (x5 : Int), .int .u64 (x6 : Int), .int .u64 (x7 : Int)] 77 (0, 0)) := heap_alloc_new wr _
        have hRb : (wr.alloc (.cells #[.int .i64 (x0 : Int), .int .i64 2, .int .u64 (x2 : Int), .int .i64 (x3 : Int), .int .i64 (x4 : Int), .int .u64 (x5 : Int), .int .u64 (x6 : Int), .int .u64 (x7 : Int)] 77)).heap[K]? = some (.cells (tabCells col64 o t0 n0) 75 (0, 0)) := (Below.heap_alloc wr _ K (by omega)).trans hR
        have hSb : SecsIn 0 (wr.alloc (.cells #[.int .i64 (x0 : Int), .int .i64 2, .int .u64 (x2 : Int), .int .i64 (x3 : Int), .int .i64 (x4 : Int), .int .u64 (x5 : Int), .int .u64 (x6 : Int), .int .u64 (x7 : Int)] 77)) (.slice (some ⟨g, 0, none⟩) n cp) n s := hS.kept (Below.alloc (Below.refl _ _) (Nat.le_refl _) _)
        have hOb : (wr.alloc (.cells #[.int .i64 (x0 : Int), .int .i64 2, .int .u64 (x2 : Int), .int .i64 (x3 : Int), .int .i64 (x4 : Int), .int .u64 (x5 : Int), .int .u64 (x6 : Int), .int .u64 (x7 : Int)] 77)).ownsRow (K + 1) 61 7 u8 l.length (symsV l) := hown.alloc _
        have hBb : Below w.heap.size w (wr.alloc (.cells #[.int .i64 (x0 : Int), .int .i64 2, .int .u64 (x2 : Int), .int .i64 (x3 : Int), .int .i64 (x4 : Int), .int .u64 (x5 : Int), .int .u64 (x6 : Int), .int .u64 (x7 : Int)] 77)) := Below.alloc hB (by omega) _
        have hZb : (wr.alloc (.cells #[.int .i64 (x0 : Int), .int .i64 2, .int .u64 (x2 : Int), .int .i64 (x3 : Int), .int .i64 (x4 : Int), .int .u64 (x5 : Int), .int .u64 (x6 : Int), .int .u64 (x7 : Int)] 77)).heap.size = wr.heap.size + 1 := size_alloc _ _
        have HO := Hid.mk' (opened_64 b t0 n0 K 0 n o _ s ⟨x0, 2, x2, x3, x4, x5, x6, x7⟩ (wr.alloc (.cells #[.int .i64 (x0 : Int), .int .i64 2, .int .u64 (x2 : Int), .int .i64 (x3 : Int), .int .i64 (x4 : Int), .int .u64 (x5 : Int), .int .u64 (x6 : Int), .int .u64 (x7 : Int)] 77)) hRb hSb hn' hsb hxb hb)
        have hbK : Below w.heap.size w (wr.alloc (.cells #[.int .i64 (x0 : Int), .int .i64 2, .int .u64 (x2 : Int), .int .i64 (x3 : Int), .int .i64 (x4 : Int), .int .u64 (x5 : Int), .int .u64 (x6 : Int), .int .u64 (x7 : Int)] 77)) ∧ w.heap.size ≤ K ∧ K < (wr.alloc (.cells #[.int .i64 (x0 : Int), .int .i64 2, .int .u64 (x2 : Int), .int .i64 (x3 : Int), .int .i64 (x4 : Int), .int .u64 (x5 : Int), .int .u64 (x6 : Int), .int .u64 (x7 : Int)] 77)).heap.size := ⟨hBb, hwK, by omega⟩
        have hSc : ∀ w4 : World, Kq K (wr.alloc (.cells #[.int .i64 (x0 : Int), .int .i64 2, .int .u64 (x2 : Int), .int .i64 (x3 : Int), .int .i64 (x4 : Int), .int .u64 (x5 : Int), .int .u64 (x6 : Int), .int .u64 (x7 : Int)] 77)) w4 → SecsIn 0 w4 (.slice (some ⟨g, 0, none⟩) n cp) n s := fun w4 hq => secs_kq hq hSb hRb (by decide)
        have hgg : g < K + 1 := (HGK.out g rfl).resolve_right (by omega)
        clear hown hR hS hB hg hy hxb hm hRb hSb hBb
        cases hop : openOf b 64 n s ⟨x0, 2, x2, x3, x4, x5, x6, x7⟩ with
        | error e =>
          have hone : oneOf b 64 o n s (s i) = .error e := by rw [hsx]; exact one_err hop
          have hT := tab_err (tab_at_err hl hin h2s hone)
          have he0 := open_ne hop
          have HO' : Hid (e ≠ 0 ∧ Calls Tryd.prog 36 #[.pointer (some ⟨K, 0, none⟩), .string b, .slice (some ⟨g, 0, none⟩) n cp, .agg #[.int .i64 (x0 : Int), .int .i64 2, .int .u64 (x2 : Int), .int .i64 (x3 : Int), .int .i64 (x4 : Int), .int .u64 (x5 : Int), .int .u64 (x6 : Int), .int .u64 (x7 : Int)]] (wr.alloc (.cells #[.int .i64 (x0 : Int), .int .i64 2, .int .u64 (x2 : Int), .int .i64 (x3 : Int), .int .i64 (x4 : Int), .int .u64 (x5 : Int), .int .u64 (x6 : Int), .int .u64 (x7 : Int)] 77)) fun r w' => r = .returned (.int .i64 e) ∧ Kq K (wr.alloc (.cells #[.int .i64 (x0 : Int), .int .i64 2, .int .u64 (x2 : Int), .int .i64 (x3 : Int), .int .i64 (x4 : Int), .int .u64 (x5 : Int), .int .u64 (x6 : Int), .int .u64 (x7 : Int)] 77)) w') := ⟨he0, HO.out.mono fun r w' ⟨h1, h2⟩ => by
            rcases h2 with ⟨e', _, h3, h4⟩ | ⟨t, nm, h3, _⟩
            · rw [hop] at h3
              obtain rfl := Except.error.inj h3
              exact ⟨h4, h1⟩
            · rw [hop] at h3; cases h3⟩
          have he : (e != 0) = true := bne_iff_ne.2 HO'.out.1
          have HT := Hid.mk' hT
          have HBK := Hid.mk' hbK
          clear hT hone hop hl hsx hOb HO hsb hb ho hlm hn' hbK h2s he0 hSc hgg
          go_wp2_with (first
            | (refine wpList_load_row rfl _ _ rfl wr.heap.size rfl _ _ _ _ hbx Tryd.underlying77 rfl (by kernel_rfl) ?_)
            | (go_at_call 36; refine (HO'.out.2).mono ?_; rintro r w4 ⟨rfl, hq⟩))
          go_ret2
          rw [HT.out.1, HT.out.2]
          exact ⟨_, rfl, World.ownsRow_nil _ _ _ _, HBK.out.1.trans ((hq.below (Nat.le_refl K) (Nat.le_of_lt HBK.out.2.2)).mono HBK.out.2.1)⟩
        | ok tn =>
          obtain ⟨t, names⟩ := tn
          obtain ⟨hz1, hz2, hz3⟩ := open_size hop rfl hb
          have hzL : t.size = t.size / 24 * 24 := by
            have h3 : t.size % 24 = 0 := hz3
            omega
          have HO' : Hid (Calls Tryd.prog 36 #[.pointer (some ⟨K, 0, none⟩), .string b, .slice (some ⟨g, 0, none⟩) n cp, .agg #[.int .i64 (x0 : Int), .int .i64 2, .int .u64 (x2 : Int), .int .i64 (x3 : Int), .int .i64 (x4 : Int), .int .u64 (x5 : Int), .int .u64 (x6 : Int), .int .u64 (x7 : Int)]] (wr.alloc (.cells #[.int .i64 (x0 : Int), .int .i64 2, .int .u64 (x2 : Int), .int .i64 (x3 : Int), .int .i64 (x4 : Int), .int .u64 (x5 : Int), .int .u64 (x6 : Int), .int .u64 (x7 : Int)] 77)) fun r w' => r = .returned (.int .i64 0) ∧ Kq K (wr.alloc (.cells #[.int .i64 (x0 : Int), .int .i64 2, .int .u64 (x2 : Int), .int .i64 (x3 : Int), .int .i64 (x4 : Int), .int .u64 (x5 : Int), .int .u64 (x6 : Int), .int .u64 (x7 : Int)] 77)) w' ∧ w'.heap[K]? = some (.cells (tabCells col64 o t names) 75 (0, 0))) := HO.out.mono fun r w' ⟨h1, h2⟩ => by
            rcases h2 with ⟨e', _, h3, h4⟩ | ⟨t', nm', h3, h4, h5⟩
            · rw [hop] at h3; cases h3
            · rw [hop] at h3
              have h6 := Except.ok.inj h3
              obtain ⟨rfl, rfl⟩ := Prod.mk.inj h6
              exact ⟨h4, h1, h5⟩
          have HA : Hid (∀ w4 : World, Kq K (wr.alloc (.cells #[.int .i64 (x0 : Int), .int .i64 2, .int .u64 (x2 : Int), .int .i64 (x3 : Int), .int .i64 (x4 : Int), .int .u64 (x5 : Int), .int .u64 (x6 : Int), .int .u64 (x7 : Int)] 77)) w4 → w4.heap[K]? = some (.cells (tabCells col64 o t names) 75 (0, 0)) → Calls Tryd.prog 37 #[.pointer (some ⟨K, 0, none⟩), u8] w4 (Appended64 o t names (K + 1) l.length (symsV l) w4)) := fun w4 hq hr => appendTo_64 t names K l.length (K + 1) (t.size / 24) o u8 _ w4 hr (Nat.lt_succ_self K) (Array.getElem?_eq_some_iff.1 hr).1 (hq.own hOb (Nat.lt_succ_self K)) hlm hz1 hz2 ho hzL
          cases hsy : symsOf 64 o t names (t.size / 24) with
          | none =>
            have hone : oneOf b 64 o n s (s i) = .error 56 := by rw [hsx]; exact one_none hop hsy
            have hT := tab_err (tab_at_err hl hin h2s hone)
            have HA' : Hid (∀ w4 : World, Kq K (wr.alloc (.cells #[.int .i64 (x0 : Int), .int .i64 2, .int .u64 (x2 : Int), .int .i64 (x3 : Int), .int .i64 (x4 : Int), .int .u64 (x5 : Int), .int .u64 (x6 : Int), .int .u64 (x7 : Int)] 77)) w4 → w4.heap[K]? = some (.cells (tabCells col64 o t names) 75 (0, 0)) → Calls Tryd.prog 37 #[.pointer (some ⟨K, 0, none⟩), u8] w4 fun r w' => r = .returned (.tuple #[.slice none 0 0, .int .i64 56]) ∧ Below (K + 1) w4 w') := fun w4 hq hr => (HA.out w4 hq hr).mono fun r w' ⟨h1, h2⟩ => by
              rcases h2 with ⟨l', v', h3, _⟩ | ⟨_, h4⟩
              · rw [hsy] at h3; cases h3
              · exact ⟨h4, h1⟩
            have HT := Hid.mk' hT
            have HBK := Hid.mk' hbK
            clear hT hone hop hl hsx hOb HO HA hsb hb ho hlm hn' hbK h2s hz1 hz2 hz3 hzL hsy hSc hgg
            go_wp2_with (first
              | (refine wpList_load_row rfl _ _ rfl wr.heap.size rfl _ _ _ _ hbx Tryd.underlying77 rfl (by kernel_rfl) ?_)
              | (go_at_call 36; refine (HO'.out).mono ?_; rintro r w4 ⟨rfl, hq, hr4⟩; clear hbx)
              | (go_at_call 37; refine (HA'.out _ hq hr4).mono ?_; rintro r w5 ⟨rfl, hb5⟩))
            go_ret2
            rw [HT.out.1, HT.out.2]
            exact ⟨_, rfl, World.ownsRow_nil _ _ _ _, (HBK.out.1.trans ((hq.below (Nat.le_refl K) (Nat.le_of_lt HBK.out.2.2)).mono HBK.out.2.1)).trans (hb5.mono (by have := HBK.out.2.1; omega))⟩
          | some m =>
            have hone : oneOf b 64 o n s (s i) = .ok m := by rw [hsx]; exact one_some hop hsy
            have hnext := tab_at_ok hl h2s hone
            have HA' : Hid (∀ w4 : World, Kq K (wr.alloc (.cells #[.int .i64 (x0 : Int), .int .i64 2, .int .u64 (x2 : Int), .int .i64 (x3 : Int), .int .i64 (x4 : Int), .int .u64 (x5 : Int), .int .u64 (x6 : Int), .int .u64 (x7 : Int)] 77)) w4 → w4.heap[K]? = some (.cells (tabCells col64 o t names) 75 (0, 0)) → Calls Tryd.prog 37 #[.pointer (some ⟨K, 0, none⟩), u8] w4 fun r w' => ∃ v, r = .returned (.tuple #[v, .int .i64 0]) ∧ w'.ownsRow (K + 1) 61 7 v (l ++ m).length (symsV (l ++ m)) ∧ Below (K + 1) w4 w') := fun w4 hq hr => (HA.out w4 hq hr).mono fun r w' ⟨h1, h2⟩ => by
              rcases h2 with ⟨l', v', h3, h4, h5⟩ | ⟨h3, _⟩
              · rw [hsy] at h3
                obtain rfl := Option.some.inj h3
                exact ⟨v', h4, by rw [List.length_append, symsV_append]; exact h5, h1⟩
              · rw [hsy] at h3; cases h3
            have HNX := Hid.mk' hnext
            have HBK := Hid.mk' (And.intro hbK (And.intro hSc hgg))
            clear hnext hone hop hl hsx hOb HO HA hsb hb ho hlm hn' hbK h2s hz1 hz2 hz3 hzL hsy hSc hgg
            go_wp2_with (first
              | (refine wpList_load_row rfl _ _ rfl wr.heap.size rfl _ _ _ _ hbx Tryd.underlying77 rfl (by kernel_rfl) ?_)
              | (go_at_call 36; refine (HO'.out).mono ?_; rintro r w4 ⟨rfl, hq, hr4⟩; clear hbx)
              | (go_at_call 37; refine (HA'.out _ hq hr4).mono ?_; rintro r w5 ⟨v5, rfl, ho5, hb5⟩))
            obtain ⟨⟨hB1, hK1, hK2⟩, hSc, hgg⟩ := HBK.out
            have HF : Hid (w5.ownsRow (K + 1) 61 7 v5 (l ++ m).length (symsV (l ++ m)) ∧ w5.heap[K]? = some (.cells (tabCells col64 o t names) 75 (0, 0)) ∧ SecsIn 0 w5 (.slice (some ⟨g, 0, none⟩) n cp) n s ∧ Below w.heap.size w w5 ∧ K + 1 ≤ w5.heap.size) := ⟨ho5, (hb5.block K (Nat.lt_succ_self K)).trans hr4, secs_low_64 (hSc w4 hq) hgg hb5, (hB1.trans ((hq.below (Nat.le_refl K) (Nat.le_of_lt hK2)).mono hK1)).trans (hb5.mono (by omega)), Nat.le_trans (Nat.le_trans hK2 hq.size) hb5.size⟩
            clear hB1 hK1 hK2 hSc hgg ho5 hr4 hb5 hq HBK
            go_roundw
            case rel => exact ⟨i + 1, l ++ m, t, names, hin, by go_num, HNX.out, HF.out⟩
            case measure => clear HF HNX HALL HA' HO'; simp [intOf]; omega
    · obtain rfl : i = n := Nat.le_antisymm hi (Nat.not_lt.1 hin)
      have HT := Hid.mk' (tab_ok hl)
      have hiI : ¬ (i : Int) < (i : Int) := Int.lt_irrefl _
      go_wp2
      go_ret2
      rw [HT.out.1, HT.out.2]
      exact ⟨_, rfl, own_base hown (by omega), hB⟩
end Go.Proofs.YtaeigacinefhnabDoor
