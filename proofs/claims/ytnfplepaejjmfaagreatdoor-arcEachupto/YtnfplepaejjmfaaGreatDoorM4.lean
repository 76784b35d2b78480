import Derived.Test.YtnfplepaejjmfaaGreatDoorM2
import Derived.Test.YtnfplepaejjmfaaGreatDoorM3
import Derived.Test.YtnfplepaejjmfaaGreatDoorR2
import Derived.Test.YtnfplepaejjmfaaGreatDoorM1

-- arc: look, whole.
namespace Go.Proofs.YtnfplepaejjmfaaGreatDoor
open Go.ChangeShapes Go.WideShapes Go.ChangeAt Go.RowKit
set_option linter.unusedVariables false
set_option maxRecDepth 100000

theorem rd_bound (B : Nat) (l : List UInt8) (n : Nat) (hB : 1 ≤ B) (hl : l.length ≤ n) (h : (rd B l).2 = 0) : (rd B l).1 < B ^ n := by
  rw [rd_lt B l h]
  refine Nat.lt_of_lt_of_le (val_lt B _ (cnt_all B l)) (Nat.pow_le_pow_right hB ?_)
  rw [List.length_take]; omega
theorem fld_le (H : List UInt8) (a n : Nat) : (fld H a n).length ≤ n := by unfold fld; rw [List.length_take]; omega
/-- the numbers of a header that is read -/
theorem parseAt_nums (b : ByteArray) (i : Int) (h : (parseAt b i).2 = 0) : (0 ≤ (parseAt b i).1.date ∧ (parseAt b i).1.date ≤ 999999999999) ∧ (0 ≤ (parseAt b i).1.uid ∧ (parseAt b i).1.uid ≤ 999999) ∧ (0 ≤ (parseAt b i).1.gid ∧ (parseAt b i).1.gid ≤ 999999) ∧ (0 ≤ (parseAt b i).1.mode ∧ (parseAt b i).1.mode ≤ 16777215) ∧ (0 ≤ (parseAt b i).1.size ∧ (parseAt b i).1.size ≤ 9999999999) := by
  unfold parseAt at h ⊢
  by_cases hi : i < 0 ∨ (b.size : Int) - 60 < i
  · rw [if_pos hi] at h; simp at h
  · rw [if_neg hi] at h ⊢
    unfold parseH at h ⊢
    by_cases h1 : fld (fld b.data.toList i.toNat 60) 58 2 = [96, 10]
    · rw [if_pos h1] at h ⊢
      by_cases h2 : numOk (fld b.data.toList i.toNat 60)
      · rw [if_pos h2]
        obtain ⟨n1, n2, n3, n4, n5⟩ := h2
        have m1 := rd_bound 10 _ 12 (by decide) (fld_le _ _ _) n1
        have m2 := rd_bound 10 _ 6 (by decide) (fld_le _ _ _) n2
        have m3 := rd_bound 10 _ 6 (by decide) (fld_le _ _ _) n3
        have m4 := rd_bound 8 _ 8 (by decide) (fld_le _ _ _) n4
        have m5 := rd_bound 10 _ 10 (by decide) (fld_le _ _ _) n5
        unfold hdOf
        dsimp only
        have e1 : (10 : Nat) ^ 12 = 1000000000000 := by decide
        have e2 : (10 : Nat) ^ 6 = 1000000 := by decide
        have e3 : (8 : Nat) ^ 8 = 16777216 := by decide
        have e4 : (10 : Nat) ^ 10 = 10000000000 := by decide
        rw [e1] at m1; rw [e2] at m2 m3; rw [e3] at m4; rw [e4] at m5
        refine ⟨⟨by omega, by omega⟩, ⟨by omega, by omega⟩, ⟨by omega, by omega⟩, ⟨by omega, by omega⟩, ⟨by omega, by omega⟩⟩
      · rw [if_neg h2] at h; simp at h
    · rw [if_neg h1] at h; simp at h
theorem head_size (b : ByteArray) (i : Int) (h : (headW b i).e = 0) : 0 ≤ (headW b i).h.size ∧ (headW b i).h.size ≤ 9999999999 := by
  obtain ⟨_, _, h3, h4, h5, _⟩ := headW_ok b i h
  rw [h4]; exact (parseAt_nums b i h5).2.2.2.2
theorem headW_data (b : ByteArray) (i : Int) : (headW b i).data.size ≤ b.size := by
  unfold headW; split <;> exact Nat.zero_le _

theorem look_c : LookC := by
  intro B b s i w hB hi hw hC hM hb
  have hm : b.size ≤ maxLen := by unfold maxLen; omega
  have hpos := headW_pos b s.pos
  have hb2 := hw.pos
  have HK0 : (headW b s.pos).e = 0 → ∀ wx : World, wx.heap[B]? = some (.cells (wkRow b s i) 111 (0, 0)) → Calls Tryz.prog 73 #[.pointer (some ⟨B, 0, none⟩), ptV (headW b s.pos)] wx fun r w' => r = .returned (.int .i64 (kindW s (headW b s.pos).f.sort)) ∧ Below wx.heap.size wx w' := fun _ wx hx => by
    have h := kindAt_c B b s.tab s.pos s.cnt s.kind i (headW b s.pos).h.date (headW b s.pos).h.uid (headW b s.pos).h.gid (headW b s.pos).h.mode (headW b s.pos).h.size (headW b s.pos).pos (headW b s.pos).fin (headW b s.pos).kind (headW b s.pos).f.sort (headW b s.pos).f.num (headW b s.pos).h.name (headW b s.pos).f.name (headW b s.pos).name (headW b s.pos).data wx hx
    unfold kindW
    simp only [Int.natCast_eq_zero] at h
    exact h
  have HG0 : (headW b s.pos).e = 0 → ∀ wx : World, Calls Tryz.prog 74 #[ptV { headW b s.pos with kind := kindW s (headW b s.pos).f.sort }] wx fun r w' => r = .returned (.bool (decide (goesW (kindW s (headW b s.pos).f.sort) (headW b s.pos).f.sort))) ∧ Below wx.heap.size wx w' := fun _ wx =>
    goes_c (headW b s.pos).h.date (headW b s.pos).h.uid (headW b s.pos).h.gid (headW b s.pos).h.mode (headW b s.pos).h.size (headW b s.pos).pos (headW b s.pos).fin (kindW s (headW b s.pos).f.sort) (headW b s.pos).f.sort (headW b s.pos).f.num (headW b s.pos).h.name (headW b s.pos).f.name (headW b s.pos).name (headW b s.pos).data wx
  have HP0 : (headW b s.pos).e = 0 → ∀ wx : World, wx.heap[B]? = some (.cells (wkRow b s i) 111 (0, 0)) → Calls Tryz.prog 75 #[.pointer (some ⟨B, 0, none⟩), ptV { headW b s.pos with kind := kindW s (headW b s.pos).f.sort }] wx fun r w' => r = .returned (.bool (decide (placedW s (headW b s.pos).f.sort))) ∧ Below wx.heap.size wx w' := fun _ wx hx => by
    have h := place_c B b s.tab s.pos s.cnt s.kind i (headW b s.pos).h.date (headW b s.pos).h.uid (headW b s.pos).h.gid (headW b s.pos).h.mode (headW b s.pos).h.size (headW b s.pos).pos (headW b s.pos).fin (kindW s (headW b s.pos).f.sort) (headW b s.pos).f.sort (headW b s.pos).f.num (headW b s.pos).h.name (headW b s.pos).f.name (headW b s.pos).name (headW b s.pos).data wx hx
    have e : decide ((ixS (headW b s.pos).f.sort → (s.cnt : Int) = 0) ∧ ((headW b s.pos).f.sort = 3 → (s.cnt : Int) = 0 ∨ ((s.cnt : Int) = 1 ∧ i = true))) = decide (placedW s (headW b s.pos).f.sort) := by
      refine decide_eq_decide.2 ?_
      unfold placedW
      have k0 : ((s.cnt : Int) = 0) ↔ s.cnt = 0 := by omega
      have k1 : ((s.cnt : Int) = 1 ∧ i = true) ↔ (s.cnt = 1 ∧ s.idx = true) := by
        constructor
        · rintro ⟨h1, h2⟩
          have h3 : s.cnt = 1 := by omega
          exact ⟨h3, by rw [← hi.2 h3]; exact h2⟩
        · rintro ⟨h1, h2⟩
          exact ⟨by omega, by rw [hi.2 h1]; exact h2⟩
      rw [k0, k1]
    rw [e] at h
    exact h
  have HD0 : (headW b s.pos).e = 0 → ∀ (wx : World) q, wx.heap[q]? = some (.cells (rowP { headW b s.pos with kind := kindW s (headW b s.pos).f.sort }) 86 (0, 0)) → Calls Tryz.prog 76 #[.pointer (some ⟨q, 0, none⟩), .string b] wx fun r w' => r = .returned (.int .i64 (dataW b { headW b s.pos with kind := kindW s (headW b s.pos).f.sort }).e) ∧ w'.heap[q]? = some (.cells (rowP (dataW b { headW b s.pos with kind := kindW s (headW b s.pos).f.sort })) 86 (0, 0)) ∧ Kq q wx w' := fun he wx q hx => by
    obtain ⟨h1, h2, h3, _⟩ := headW_ok b s.pos he
    have h4 := (head_size b s.pos he).2
    refine cutData_c q b { headW b s.pos with kind := kindW s (headW b s.pos).f.sort } he wx hx hm ?_ ?_ h3 ?_
    · show 0 ≤ (headW b s.pos).pos; rw [hpos]; exact h1
    · show (headW b s.pos).pos + 60 ≤ _; rw [hpos]; exact h2
    · show (headW b s.pos).h.size ≤ _; omega
  have HF0 : (headW b s.pos).e = 0 → (dataW b { headW b s.pos with kind := kindW s (headW b s.pos).f.sort }).e = 0 → ∀ (wx : World) q, Below w.heap.size w wx → wx.heap[q]? = some (.cells (rowP (dataW b { headW b s.pos with kind := kindW s (headW b s.pos).f.sort })) 86 (0, 0)) → Calls Tryz.prog 77 #[.pointer (some ⟨q, 0, none⟩), .string s.tab] wx fun r w' => r = .returned (.int .i64 (nameW s.tab (dataW b { headW b s.pos with kind := kindW s (headW b s.pos).f.sort })).e) ∧ w'.heap[q]? = some (.cells (rowP (nameW s.tab (dataW b { headW b s.pos with kind := kindW s (headW b s.pos).f.sort }))) 86 (0, 0)) ∧ Kq q wx w' := fun he he1 wx q hbx hx => by
    have h1 := hw.tab
    have h2 := dataW_data b { headW b s.pos with kind := kindW s (headW b s.pos).f.sort } (headW_data b s.pos)
    exact findName_c q s.tab (dataW b { headW b s.pos with kind := kindW s (headW b s.pos).f.sort }) he1 wx hx (by omega) (hM.on hbx) (by omega)
  have HR0 : ∀ wx : World, Below w.heap.size w wx → Calls Tryz.prog 72 #[.string b, .int .i64 (s.pos : Int)] wx fun r w' => r = .returned (.tuple #[ptV (headW b s.pos), .int .i64 (headW b s.pos).e]) ∧ Below wx.heap.size wx w' := fun wx hbx => readHead_c b s.pos wx (hC.on hbx) hm
  unfold lookW
  generalize nameW s.tab (dataW b { headW b s.pos with kind := kindW s (headW b s.pos).f.sort }) = Y2 at HF0 ⊢
  generalize dataW b { headW b s.pos with kind := kindW s (headW b s.pos).f.sort } = Y1 at HD0 HF0 ⊢
  by_cases q1 : ¬ (headW b s.pos).e = 0
  · rw [if_pos q1]
    exact look_0 B b s.tab s.pos s.cnt s.kind i (headW b s.pos).h.date (headW b s.pos).h.uid (headW b s.pos).h.gid (headW b s.pos).h.mode (headW b s.pos).h.size (headW b s.pos).pos (headW b s.pos).fin (headW b s.pos).kind (headW b s.pos).f.sort (headW b s.pos).f.num (headW b s.pos).e (headW b s.pos).h.name (headW b s.pos).f.name (headW b s.pos).name (headW b s.pos).data (kindW s (headW b s.pos).f.sort) (decide (goesW (kindW s (headW b s.pos).f.sort) (headW b s.pos).f.sort)) (decide (placedW s (headW b s.pos).f.sort)) Y1.h.date Y1.h.uid Y1.h.gid Y1.h.mode Y1.h.size Y1.pos Y1.fin Y1.kind Y1.f.sort Y1.f.num Y1.e Y1.h.name Y1.f.name Y1.name Y1.data Y2.h.date Y2.h.uid Y2.h.gid Y2.h.mode Y2.h.size Y2.pos Y2.fin Y2.kind Y2.f.sort Y2.f.num Y2.e Y2.h.name Y2.f.name Y2.name Y2.data w hB HR0 HK0 HG0 HP0 HD0 HF0 q1
  rw [if_neg q1]
  have q1' := Classical.not_not.1 q1
  by_cases q2 : ¬ goesW (kindW s (headW b s.pos).f.sort) (headW b s.pos).f.sort
  · rw [if_pos q2]
    exact look_1 B b s.tab s.pos s.cnt s.kind i (headW b s.pos).h.date (headW b s.pos).h.uid (headW b s.pos).h.gid (headW b s.pos).h.mode (headW b s.pos).h.size (headW b s.pos).pos (headW b s.pos).fin (headW b s.pos).kind (headW b s.pos).f.sort (headW b s.pos).f.num (headW b s.pos).e (headW b s.pos).h.name (headW b s.pos).f.name (headW b s.pos).name (headW b s.pos).data (kindW s (headW b s.pos).f.sort) (decide (goesW (kindW s (headW b s.pos).f.sort) (headW b s.pos).f.sort)) (decide (placedW s (headW b s.pos).f.sort)) Y1.h.date Y1.h.uid Y1.h.gid Y1.h.mode Y1.h.size Y1.pos Y1.fin Y1.kind Y1.f.sort Y1.f.num Y1.e Y1.h.name Y1.f.name Y1.name Y1.data Y2.h.date Y2.h.uid Y2.h.gid Y2.h.mode Y2.h.size Y2.pos Y2.fin Y2.kind Y2.f.sort Y2.f.num Y2.e Y2.h.name Y2.f.name Y2.name Y2.data w hB HR0 HK0 HG0 HP0 HD0 HF0 q1' (decide_eq_false q2)
  rw [if_neg q2]
  have q2' := decide_eq_true (Classical.not_not.1 q2)
  by_cases q3 : ¬ placedW s (headW b s.pos).f.sort
  · rw [if_pos q3]
    exact look_2 B b s.tab s.pos s.cnt s.kind i (headW b s.pos).h.date (headW b s.pos).h.uid (headW b s.pos).h.gid (headW b s.pos).h.mode (headW b s.pos).h.size (headW b s.pos).pos (headW b s.pos).fin (headW b s.pos).kind (headW b s.pos).f.sort (headW b s.pos).f.num (headW b s.pos).e (headW b s.pos).h.name (headW b s.pos).f.name (headW b s.pos).name (headW b s.pos).data (kindW s (headW b s.pos).f.sort) (decide (goesW (kindW s (headW b s.pos).f.sort) (headW b s.pos).f.sort)) (decide (placedW s (headW b s.pos).f.sort)) Y1.h.date Y1.h.uid Y1.h.gid Y1.h.mode Y1.h.size Y1.pos Y1.fin Y1.kind Y1.f.sort Y1.f.num Y1.e Y1.h.name Y1.f.name Y1.name Y1.data Y2.h.date Y2.h.uid Y2.h.gid Y2.h.mode Y2.h.size Y2.pos Y2.fin Y2.kind Y2.f.sort Y2.f.num Y2.e Y2.h.name Y2.f.name Y2.name Y2.data w hB HR0 HK0 HG0 HP0 HD0 HF0 q1' q2' (decide_eq_false q3)
  rw [if_neg q3]
  have q3' := decide_eq_true (Classical.not_not.1 q3)
  by_cases q4 : ¬ Y1.e = 0
  · rw [if_pos q4]
    exact look_3 B b s.tab s.pos s.cnt s.kind i (headW b s.pos).h.date (headW b s.pos).h.uid (headW b s.pos).h.gid (headW b s.pos).h.mode (headW b s.pos).h.size (headW b s.pos).pos (headW b s.pos).fin (headW b s.pos).kind (headW b s.pos).f.sort (headW b s.pos).f.num (headW b s.pos).e (headW b s.pos).h.name (headW b s.pos).f.name (headW b s.pos).name (headW b s.pos).data (kindW s (headW b s.pos).f.sort) (decide (goesW (kindW s (headW b s.pos).f.sort) (headW b s.pos).f.sort)) (decide (placedW s (headW b s.pos).f.sort)) Y1.h.date Y1.h.uid Y1.h.gid Y1.h.mode Y1.h.size Y1.pos Y1.fin Y1.kind Y1.f.sort Y1.f.num Y1.e Y1.h.name Y1.f.name Y1.name Y1.data Y2.h.date Y2.h.uid Y2.h.gid Y2.h.mode Y2.h.size Y2.pos Y2.fin Y2.kind Y2.f.sort Y2.f.num Y2.e Y2.h.name Y2.f.name Y2.name Y2.data w hB HR0 HK0 HG0 HP0 HD0 HF0 q1' q2' q3' q4
  · rw [if_neg q4]
    exact look_4 B b s.tab s.pos s.cnt s.kind i (headW b s.pos).h.date (headW b s.pos).h.uid (headW b s.pos).h.gid (headW b s.pos).h.mode (headW b s.pos).h.size (headW b s.pos).pos (headW b s.pos).fin (headW b s.pos).kind (headW b s.pos).f.sort (headW b s.pos).f.num (headW b s.pos).e (headW b s.pos).h.name (headW b s.pos).f.name (headW b s.pos).name (headW b s.pos).data (kindW s (headW b s.pos).f.sort) (decide (goesW (kindW s (headW b s.pos).f.sort) (headW b s.pos).f.sort)) (decide (placedW s (headW b s.pos).f.sort)) Y1.h.date Y1.h.uid Y1.h.gid Y1.h.mode Y1.h.size Y1.pos Y1.fin Y1.kind Y1.f.sort Y1.f.num Y1.e Y1.h.name Y1.f.name Y1.name Y1.data Y2.h.date Y2.h.uid Y2.h.gid Y2.h.mode Y2.h.size Y2.pos Y2.fin Y2.kind Y2.f.sort Y2.f.num Y2.e Y2.h.name Y2.f.name Y2.name Y2.data w hB HR0 HK0 HG0 HP0 HD0 HF0 q1' q2' q3' (Classical.not_not.1 q4)
end Go.Proofs.YtnfplepaejjmfaaGreatDoor

-- arc: the document's named, in plain words.
namespace Go.Proofs.YtnfplepaejjmfaaGreatDoor
open Go.ChangeShapes Go.WideShapes Go.ChangeAt Go.RowKit Go.Shelf
set_option linter.unusedVariables false
set_option maxRecDepth 100000

/-- the header, its field, and where they may stand -/
def namedW (b : ByteArray) (s : Wk) : Pt :=
  if ¬ (headW b s.pos).e = 0 then headW b s.pos
  else if ¬ goesW (kindW s (headW b s.pos).f.sort) (headW b s.pos).f.sort then { headW b s.pos with kind := kindW s (headW b s.pos).f.sort, e := 94 }
  else if ¬ placedW s (headW b s.pos).f.sort then { headW b s.pos with kind := kindW s (headW b s.pos).f.sort, e := 93 }
  else { headW b s.pos with kind := kindW s (headW b s.pos).f.sort }
theorem lookW_named (b : ByteArray) (s : Wk) : lookW b s = if ¬ (namedW b s).e = 0 then namedW b s else if ¬ (dataW b (namedW b s)).e = 0 then dataW b (namedW b s) else nameW s.tab (dataW b (namedW b s)) := by
  unfold lookW namedW
  by_cases q1 : ¬ (headW b s.pos).e = 0
  · simp only [if_pos q1]
  simp only [if_neg q1]
  by_cases q2 : ¬ goesW (kindW s (headW b s.pos).f.sort) (headW b s.pos).f.sort
  · simp only [if_pos q2]; rw [if_pos (by decide)]
  simp only [if_neg q2]
  by_cases q3 : ¬ placedW s (headW b s.pos).f.sort
  · simp only [if_pos q3]; rw [if_pos (by decide)]
  simp only [if_neg q3]
  rw [if_neg (show ¬ ¬ ({ headW b s.pos with kind := kindW s (headW b s.pos).f.sort } : Pt).e = 0 from q1)]
set_option maxHeartbeats 1000000 in
theorem nm_all (b : ByteArray) (kd fm sp pc pl ee : Int) (ix tb : ByteArray) (ib : Bool) (ao bo : Option Addr) (ln cp lb cb : Nat) (d u g m s : Int) (n : ByteArray) (so nu : Int) (fn : ByteArray) (K : Int) (hK : K = if pc = 0 ∧ ¬ kd = 1 then kindI so else kd) (w : World)
    (HP : Hid (∀ wx, Calls Tryz.prog 89 #[.string b, .int .i64 pl] wx fun r w' => r = .returned (.tuple #[.agg #[.int .i64 d, .int .i64 u, .int .i64 g, .int .i64 m, .string n, .int .i64 s], .int .i64 0]) ∧ Below wx.heap.size wx w'))
    (HR : Hid (∀ wx, Calls Tryz.prog 90 #[.string n] wx fun r w' => r = .returned (.tuple #[.agg #[.int .i64 so, .int .i64 nu, .string fn], .int .i64 0]) ∧ Below wx.heap.size wx w')) :
    Calls Tryz.prog 66 #[.string b, .agg #[.int .i64 kd, .int .i64 fm, .string ix, .int .i64 sp, .slice ao ln cp, .slice bo lb cb, .string tb, .int .i64 pc, .bool ib, .int .i64 pl, .int .i64 ee]] w fun r w' => r = .returned (.tuple #[.agg (if ¬ goesW K so then #[.int .i64 d, .int .i64 u, .int .i64 g, .int .i64 m, .string n, .int .i64 s, .int .i64 so, .int .i64 nu, .string fn, .string ⟨#[]⟩, .int .i64 0, .int .i64 94] else if ¬ ((ixS so → pc = 0) ∧ (so = 3 → pc = 0 ∨ (pc = 1 ∧ ib = true))) then #[.int .i64 d, .int .i64 u, .int .i64 g, .int .i64 m, .string n, .int .i64 s, .int .i64 so, .int .i64 nu, .string fn, .string ⟨#[]⟩, .int .i64 0, .int .i64 93] else #[.int .i64 d, .int .i64 u, .int .i64 g, .int .i64 m, .string n, .int .i64 s, .int .i64 so, .int .i64 nu, .string fn, .string ⟨#[]⟩, .int .i64 0, .int .i64 0]), .int .i64 K]) ∧ Below w.heap.size w w' := by
  have HK := fun wx => rkind_c so wx
  have HB := fun wx => rbsd_c so wx
  have HM := fun wx => rmis_c kd fm sp pc pl ee ix tb ib ao bo ln cp lb cb so wx
  by_cases hq : kindI so = 2
  · rw [decide_eq_true hq] at HB
    by_cases hp : pc = 0
    · by_cases hk : kd = 1
      · rw [if_neg (fun q => q.2 hk)] at hK; rw [hK]
        rw [if_pos (fun h => by have := h.1 hq; omega)]
        exact nm_94ct b kd fm sp pc pl ee ix tb ib ao bo ln cp lb cb d u g m s 0 n so nu 0 fn w HP HR HB hp hk (by simp [hk])
      · rw [if_pos ⟨hp, hk⟩] at hK
        rw [if_neg (Classical.not_not.2 (show goesW K so by rw [hK]))]
        rw [hK]
        by_cases h3 : (ixS so → pc = 0) ∧ (so = 3 → pc = 0 ∨ (pc = 1 ∧ ib = true))
        · rw [if_neg (Classical.not_not.2 h3)]
          rw [decide_eq_true h3] at HM
          exact nm_okat b kd fm sp pc pl ee ix tb ib ao bo ln cp lb cb d u g m s 0 n so nu 0 fn (kindI so) w HP HR HK HB HM hp hk (by simp [hq])
        · rw [if_pos h3]
          rw [decide_eq_false h3] at HM
          exact nm_93at b kd fm sp pc pl ee ix tb ib ao bo ln cp lb cb d u g m s 0 n so nu 0 fn (kindI so) w HP HR HK HB HM hp hk (by simp [hq])
    · rw [if_neg (fun q => hp q.1)] at hK; rw [hK]
      by_cases h2 : kd = 2
      · rw [if_neg (Classical.not_not.2 (show goesW kd so from ⟨fun _ => h2, fun _ => hq⟩))]
        by_cases h3 : (ixS so → pc = 0) ∧ (so = 3 → pc = 0 ∨ (pc = 1 ∧ ib = true))
        · rw [if_neg (Classical.not_not.2 h3)]
          rw [decide_eq_true h3] at HM
          exact nm_okbt b kd fm sp pc pl ee ix tb ib ao bo ln cp lb cb d u g m s 0 n so nu 0 fn w HP HR HB HM hp (by simp [h2])
        · rw [if_pos h3]
          rw [decide_eq_false h3] at HM
          exact nm_93bt b kd fm sp pc pl ee ix tb ib ao bo ln cp lb cb d u g m s 0 n so nu 0 fn w HP HR HB HM hp (by simp [h2])
      · rw [if_pos (fun h => h2 (h.1 hq))]
        exact nm_94bt b kd fm sp pc pl ee ix tb ib ao bo ln cp lb cb d u g m s 0 n so nu 0 fn w HP HR HB hp (by simp [h2])
  · rw [decide_eq_false hq] at HB
    by_cases hp : pc = 0
    · by_cases hk : kd = 1
      · rw [if_neg (fun q => q.2 hk)] at hK; rw [hK]
        rw [if_neg (Classical.not_not.2 (show goesW kd so from ⟨fun h => absurd h hq, fun h => by omega⟩))]
        by_cases h3 : (ixS so → pc = 0) ∧ (so = 3 → pc = 0 ∨ (pc = 1 ∧ ib = true))
        · rw [if_neg (Classical.not_not.2 h3)]
          rw [decide_eq_true h3] at HM
          exact nm_okcf b kd fm sp pc pl ee ix tb ib ao bo ln cp lb cb d u g m s 0 n so nu 0 fn w HP HR HB HM hp hk (by simp [hk])
        · rw [if_pos h3]
          rw [decide_eq_false h3] at HM
          exact nm_93cf b kd fm sp pc pl ee ix tb ib ao bo ln cp lb cb d u g m s 0 n so nu 0 fn w HP HR HB HM hp hk (by simp [hk])
      · rw [if_pos ⟨hp, hk⟩] at hK
        rw [if_neg (Classical.not_not.2 (show goesW K so by rw [hK]))]
        rw [hK]
        by_cases h3 : (ixS so → pc = 0) ∧ (so = 3 → pc = 0 ∨ (pc = 1 ∧ ib = true))
        · rw [if_neg (Classical.not_not.2 h3)]
          rw [decide_eq_true h3] at HM
          exact nm_okaf b kd fm sp pc pl ee ix tb ib ao bo ln cp lb cb d u g m s 0 n so nu 0 fn (kindI so) w HP HR HK HB HM hp hk (by simp [hq])
        · rw [if_pos h3]
          rw [decide_eq_false h3] at HM
          exact nm_93af b kd fm sp pc pl ee ix tb ib ao bo ln cp lb cb d u g m s 0 n so nu 0 fn (kindI so) w HP HR HK HB HM hp hk (by simp [hq])
    · rw [if_neg (fun q => hp q.1)] at hK; rw [hK]
      by_cases h2 : kd = 2
      · rw [if_pos (fun h => hq (h.2 h2))]
        exact nm_94bf b kd fm sp pc pl ee ix tb ib ao bo ln cp lb cb d u g m s 0 n so nu 0 fn w HP HR HB hp (by simp [h2])
      · rw [if_neg (Classical.not_not.2 (show goesW kd so from ⟨fun h => absurd h hq, fun h => absurd h h2⟩))]
        by_cases h3 : (ixS so → pc = 0) ∧ (so = 3 → pc = 0 ∨ (pc = 1 ∧ ib = true))
        · rw [if_neg (Classical.not_not.2 h3)]
          rw [decide_eq_true h3] at HM
          exact nm_okbf b kd fm sp pc pl ee ix tb ib ao bo ln cp lb cb d u g m s 0 n so nu 0 fn w HP HR HB HM hp (by simp [h2])
        · rw [if_pos h3]
          rw [decide_eq_false h3] at HM
          exact nm_93bf b kd fm sp pc pl ee ix tb ib ao bo ln cp lb cb d u g m s 0 n so nu 0 fn w HP HR HB HM hp (by simp [h2])

theorem parseAt_no (b : ByteArray) (i : Int) (h : ¬ (parseAt b i).2 = 0) : (parseAt b i).1 = hd0 := by
  unfold parseAt at h ⊢
  split
  · rfl
  · rename_i hi
    rw [if_neg hi] at h
    unfold parseH at h ⊢
    split
    · rename_i h1
      rw [if_pos h1] at h
      split
      · rename_i h2; rw [if_pos h2] at h; exact absurd rfl h
      · rfl
    · rfl
theorem rnamed_c (b : ByteArray) (s : Wk) (fm sp ee : Int) (ix : ByteArray) (ao bo : Option Addr) (ln cp lb cb : Nat) (w : World) (hm : b.size ≤ maxLen) :
    Calls Tryz.prog 66 #[.string b, .agg #[.int .i64 s.kind, .int .i64 fm, .string ix, .int .i64 sp, .slice ao ln cp, .slice bo lb cb, .string s.tab, .int .i64 (s.cnt : Int), .bool s.idx, .int .i64 (s.pos : Int), .int .i64 ee]] w fun r w' => r = .returned (.tuple #[.agg (rpRow (namedW b s)), .int .i64 (if (headW b s.pos).e = 0 then kindW s (headW b s.pos).f.sort else s.kind)]) ∧ Below w.heap.size w w' := by
  have HP : ∀ wx : World, Calls Tryz.prog 89 #[.string b, .int .i64 (s.pos : Int)] wx fun r w' => r = .returned (.tuple #[hdV (parseAt b s.pos).1, .int .i64 (parseAt b s.pos).2]) ∧ Below wx.heap.size wx w' := fun wx => rparse_c b s.pos wx hm
  have hn := name16 b s.pos
  have h0 := parseAt_no b s.pos
  unfold namedW
  unfold headW
  unfold kindW
  generalize parseAt b (s.pos : Int) = PP at HP hn h0 ⊢
  obtain ⟨⟨d, u, g, m, n, z⟩, e1⟩ := PP
  dsimp only at HP hn h0 ⊢
  by_cases he : e1 = 0
  · subst he
    simp only [if_pos]
    have HR := fun (w : World) => rread_c n w (by unfold maxLen; omega)
    generalize readL n.data.toList = R at HR ⊢
    obtain ⟨⟨so, nu, fn⟩, e2⟩ := R
    dsimp only at HR ⊢
    by_cases he2 : e2 = 0
    · subst he2
      simp only [if_pos]
      have H := nm_all b s.kind fm sp s.cnt s.pos ee ix s.tab s.idx ao bo ln cp lb cb d u g m z n so nu fn _ rfl w HP HR
      have c1 : ((s.cnt : Int) = 0) ↔ s.cnt = 0 := by omega
      have c2 : ((s.cnt : Int) = 1) ↔ s.cnt = 1 := by omega
      simp only [c1, c2] at H
      refine H.mono ?_
      rintro r w' ⟨rfl, hb⟩
      refine ⟨?_, hb⟩
      by_cases q2 : ¬ goesW (if s.cnt = 0 ∧ ¬ s.kind = 1 then kindI so else s.kind) so
      · simp only [if_pos q2]; rfl
      · simp only [if_neg q2]
        by_cases q3 : ¬ placedW s so
        · simp only [if_pos q3]; rfl
        · simp only [if_neg q3]; rfl
    · simp only [if_pos he2, if_neg he2]
      have H := nm_2 b s.kind fm sp s.cnt s.pos ee ix s.tab s.idx ao bo ln cp lb cb d u g m z 0 n so nu e2 fn w HP HR he2
      exact H
  · simp only [if_neg he, if_pos he]
    have hh := h0 he
    have H := nm_1 b s.kind fm sp s.cnt s.pos ee ix s.tab s.idx ao bo ln cp lb cb d u g m z e1 n w HP he
    injection hh with a1 a2 a3 a4 a5 a6
    subst a1 a2 a3 a4 a5 a6
    exact H
end Go.Proofs.YtnfplepaejjmfaaGreatDoor
