-- Proof of the given statement about TextJoin, second form. The frame follows the guide's toys for such a statement and for a slice that came in; the walk and the lemmas are ours.
import Derived.Test.YthdgkghefjnfgacRows
import Derived.Test.YthdgkghefjnfgacJoin
import Derived.Test.YthdgkghefjnfgacRJoin
import Derived.Test.YthdgkghefjnfgacSameC
import Derived.WalkKit
import Derived.ProofKit
import Derived.OpenShut
import Derived.ShutString
import Derived.ChangeOld
import Derived.Below
import Derived.SliceStrings
import Derived.JoinedCond
import Derived.Deep.RegionWith
namespace Go.Proofs.Ythdgkghefjnfgac.textJoin
open Go.ChangeShapes Go.WideShapes Go.ChangeAt Go.RowKit
set_option linter.unusedVariables false

theorem own : ownKnob Try.prog.godebug = none := by kernel_rfl
theorem laidOut : laidOutB Try.prog = true := by kernel_rfl
theorem bulk_strs {H : Type} (l : List ByteArray) : Rows.uptoBulkAll (strs (H := H) l) = tot l := by
  induction l with
  | nil => rfl
  | cons b r ih =>
    have e : b.data.toList.length = b.size := by rw [Array.length_toList]; rfl
    have t : tot (b :: r) = b.size + 1 + tot r := by simp [tot]
    rw [t, ← ih]
    show Rows.uptoBulk (DataW.lit (H := H) (.string b.data.toList)) + Rows.uptoBulkAll (strs (H := H) r) = _
    simp only [Rows.uptoBulk, e]
theorem own_weaken {w : World} {B B' : Nat} {e : TypeId} {size : Nat} {v : Value} {n : Nat} {xs : List Value} (h : w.ownsRow B e size v n xs) (hB : B' ≤ B) : w.ownsRow B' e size v n xs := by
  refine ⟨h.1, ?_⟩
  rcases h.2 with h2 | ⟨g, cap, cur, hv, hg, r⟩
  · exact .inl h2
  · exact .inr ⟨g, cap, cur, hv, by omega, r⟩
theorem add_plain' (b off j : Nat) : (⟨b, off, none⟩ : Addr).add j = ⟨b, off + j, none⟩ := by
  unfold Addr.add
  split
  · simp_all
  · simp
theorem row_cells {w : World} {b off : Nat} {l : List ByteArray} (hc : ∀ j, j < l.length → w.cell? ⟨b, off + j, none⟩ = some (.string (l.getD j .empty))) : ∀ j u, (strV l)[j]? = some u → w.cell? ((⟨b, off, none⟩ : Addr).add j) = some u := by
  intro j u hj
  have hlt : j < l.length := by
    have := (List.getElem?_eq_some_iff.1 hj).1
    rwa [strV_length] at this
  rw [add_plain', hc j hlt]
  rw [← hj]
  simp [strV, List.getD, List.getElem?_eq_getElem hlt]
theorem strV_one (l : List ByteArray) : ∀ u ∈ strV l, u.oneCell' = true := by
  intro u hu
  simp only [strV, List.mem_map] at hu
  obtain ⟨b, _, rfl⟩ := hu
  rfl
theorem row_below {w w' : World} {v : Value} {l : List ByteArray} (h : RowS w v l) (hb : Below w.heap.size w w') : RowS w' v l := by
  rcases h with h | ⟨b, off, cap, rfl, hc⟩
  · exact .inl h
  · refine .inr ⟨b, off, cap, rfl, fun j hj => ?_⟩
    have h0 := hc j hj
    exact (hb.cell (p := ⟨b, off + j, none⟩) (World.block_lt_of_cell? w _ h0)).trans h0

theorem form_pos {w : World} {B : Nat} {e : TypeId} {v : Value} {n : Nat} {xs : List Value} (h : w.ownsRow B e 1 v n xs) (hn : 0 < n) : ∃ g cap, v = .slice (some ⟨g, 0, none⟩) n cap ∧ n ≤ cap ∧ cap ≤ maxLen ∧ B ≤ g ∧ g < w.heap.size := by
  rcases h.2 with ⟨_, h0⟩ | ⟨g, cap, cur, rfl, hb, hg, hnc, hcm, _⟩
  · omega
  · exact ⟨g, cap, rfl, hnc, hcm, hb, (Array.getElem?_eq_some_iff.1 hg).1⟩
theorem row_take {w : World} {B g cap m n : Nat} {l : List ByteArray} (h : w.ownsRow B 9 1 (.slice (some ⟨g, 0, none⟩) m cap) m (strV l)) (hn : n ≤ m) (hm : l.length = m) : RowS w (.slice (some ⟨g, 0, none⟩) n cap) (l.take n) := by
  refine .inr ⟨g, 0, cap, ?_, fun j hj => ?_⟩
  · rw [List.length_take, hm, Nat.min_eq_left hn]
  · rw [List.length_take, hm, Nat.min_eq_left hn] at hj
    have := h.cells (g := g) rfl j (.string (l.getD j .empty)) (by simp [strV, List.getD, List.getElem?_eq_getElem (show j < l.length by omega)])
    rw [add_plain'] at this
    rw [this]
    simp [List.getD, hj]
theorem own_cell {w : World} {B g cap m : Nat} {l : List ByteArray} (h : w.ownsRow B 9 1 (.slice (some ⟨g, 0, none⟩) m cap) m (strV l)) (j : Nat) (hj : j < l.length) : w.cell? ⟨g, j, none⟩ = some (.string (l.getD j .empty)) := by
  have := h.cells (g := g) rfl j (.string (l.getD j .empty)) (by simp [strV, List.getD, List.getElem?_eq_getElem hj])
  rw [add_plain'] at this
  simpa using this
theorem strV_set (l : List ByteArray) (j : Nat) (b : ByteArray) : (strV l).set j (.string b) = strV (l.set j b) := by
  simp [strV, List.map_set]
theorem own_set {w : World} {B g cap m : Nat} {l : List ByteArray} (h : w.ownsRow B 9 1 (.slice (some ⟨g, 0, none⟩) m cap) m (strV l)) (j : Nat) (b : ByteArray) : (w.setCell ⟨g, j, none⟩ (.string b)).ownsRow B 9 1 (.slice (some ⟨g, 0, none⟩) m cap) m (strV (l.set j b)) := by
  have := (h.stored j (.string b)).1
  rwa [strV_set] at this
theorem tot_set (l : List ByteArray) (j : Nat) (b : ByteArray) : tot (l.set j b) ≤ tot l + b.size := by
  induction l generalizing j with
  | nil => simp
  | cons v r ih =>
    have t : ∀ (x : ByteArray) y, tot (x :: y) = x.size + 1 + tot y := fun x y => by simp [tot]
    match j with
    | 0 => rw [List.set_cons_zero, t, t]; omega
    | j + 1 => rw [List.set_cons_succ, t, t]; have := ih j; omega
theorem tot_set' (l : List ByteArray) (j : Nat) (b : ByteArray) (hj : j < l.length) : tot (l.set j b) + (l.getD j .empty).size = tot l + b.size := by
  induction l generalizing j with
  | nil => simp at hj
  | cons v r ih =>
    have t : ∀ (x : ByteArray) y, tot (x :: y) = x.size + 1 + tot y := fun x y => by simp [tot]
    match j with
    | 0 => rw [List.set_cons_zero, t, t]; simp [List.getD]; omega
    | j + 1 =>
      rw [List.set_cons_succ, t, t]
      have := ih j (by simpa using hj)
      simp only [List.getD, List.getElem?_cons_succ] at this ⊢
      omega
def bBehind : ByteArray := ⟨#[98, 101, 104, 105, 110, 100]⟩
def bAnother : ByteArray := ⟨#[97, 110, 111, 116, 104, 101, 114]⟩
theorem tot_behind (l : List ByteArray) : tot (l ++ [bBehind]) = tot l + 7 := by
  have e : bBehind.size = 6 := rfl
  simp [tot, e]

theorem walk (v0 : Value) (l0 : List ByteArray) (w : World) (r0 : RowS w v0 l0) (t0 : tot l0 ≤ 1048575) :
    Calls Try.prog 3 #[v0] w fun e w' => e = .returned (.bool true) ∧ Below w.heap.size w w' := by
  have hlen : l0.length ≤ 1048576 := by
    have : l0.length ≤ tot l0 := by
      clear r0 t0
      induction l0 with
      | nil => simp
      | cons v r ih => have t : tot (v :: r) = v.size + 1 + tot r := by simp [tot]
                       simp only [List.length_cons]; omega
    omega
  obtain ⟨i0, hi, hz0, hz1, hz2⟩ := info_parts info9
  have HJ : Hid (∀ v w, RowS w v l0 → Calls Try.prog 4 #[v] w fun e w' => e = .returned (.string (strB (ljoin l0))) ∧ Below w.heap.size w w') := fun v w h => join_c v l0 w h (by omega)
  have HR : Hid (∀ v w, RowS w v l0 → Calls Try.prog 5 #[v] w fun e w' => e = .returned (.string (strB (ljoin l0))) ∧ Below w.heap.size w w') := fun v w h => rjoin_c v l0 w h (by omega)
  obtain ⟨line, hline⟩ : ∃ line, line = strB (ljoin l0) := ⟨_, rfl⟩
  rw [← hline] at HJ HR
  have HS : Hid (∀ (va vb : Value) (w' : World), RowS w' va l0 → RowS w' vb l0 → Calls Try.prog 6 #[va, vb] w' fun e w'' => e = .returned (.bool true) ∧ ∃ n, w'' = w'.drewN n) := fun va vb w' h1 h2 => by
    have := same_c va vb l0 l0 w' h1 h2 (by omega) (by omega)
    rwa [decide_eq_true (rfl : l0 = l0)] at this
  have HR0 : Hid (RowS w v0 l0) := r0
  rcases Nat.eq_zero_or_pos l0.length with hn0 | hn0
  · have hl0 : l0 = [] := List.eq_nil_of_length_eq_zero hn0
    subst hl0
    obtain ⟨ao, c, rfl⟩ : ∃ ao c, v0 = .slice ao 0 c := RowS.form r0
    have HZ : Hid (∀ (ao : Option Addr) (c : Nat) (wx : World), RowS wx (.slice ao 0 c) []) := fun ao c wx => .inl ⟨rfl, _, _, rfl⟩
    clear r0 HR0 hline
    rcases ao with _ | ad
    · go_enter Try.func3, Try.ntmps3
      go_wp2_with (at_builtin; refine wpList_append_own _ rfl _ _ 22 rfl w.heap.size 9 i0 (.string ⟨#[]⟩) 1 16 Try.underlying22 hi hz0 hz1 hz2 rfl (by decide) _ _ _ rfl (World.ownsRow_nil _ _ _ _) ⟨w.heap.size, 0, none⟩ 1 1 [.string bBehind] rfl rfl ?c1 ?c2 (by decide) (by decide) ?c5 ?_)
      case c1 =>
        intro j u hj
        match j, hj with
        | 0, hj => simp at hj; subst hj; simp [Addr.add, bBehind]
      case c2 => intro u hu; simp at hu; subst hu; rfl
      case c5 => simp
      intro v2 w2 ho2 hg2 _
      have hbb2 : Below w.heap.size w w2 := ((Below.refl _ w).alloc (Nat.le_refl _) _).grown hg2 (by simp) (fun k hk => by cases hk)
      have ho2' : w2.ownsRow w.heap.size 9 1 v2 1 (strV [bBehind]) := by simpa [strV] using ho2
      clear ho2 hg2
      obtain ⟨g, cp, rfl, hcap, hcm, hBg, hgw⟩ := form_pos ho2' (by omega)
      have s2 := hbb2.size
      have kI : (0 : Int) ≤ (cp : Int) := by omega
      have HCB : Hid (∀ wx : World, wx.ownsRow w.heap.size 9 1 (.slice (some ⟨g, 0, none⟩) 1 cp) 1 (strV [bBehind]) → wx.cell? ⟨g, 0, none⟩ = some (.string ⟨#[98, 101, 104, 105, 110, 100]⟩)) := fun wx h => by
        have := own_cell h 0 (by simp)
        rw [this]; simp [List.getD, bBehind]
      go_wp2_with (go_at_call 4; refine (HJ.out _ _ (HZ.out _ _ _)).mono ?_; rintro e w3 ⟨rfl, hb3⟩)
      have s3 := hb3.size
      have hbb3 : Below w.heap.size w w3 := hbb2.trans (hb3.mono s2)
      have ho3 := own_below ho2' hb3 s2
      go_wp2_with (go_at_call 5; refine (HR.out _ _ (HZ.out _ _ _)).mono ?_; rintro e w4 ⟨rfl, hb4⟩)
      have hbb4 : Below w.heap.size w w4 := hbb3.trans (hb4.mono (Nat.le_trans s2 s3))
      have ho4 := own_below ho3 hb4 (Nat.le_trans s2 s3)
      have HO4 : Hid (w4.ownsRow w.heap.size 9 1 (.slice (some ⟨g, 0, none⟩) 1 cp) 1 (strV [bBehind])) := ho4
      clear ho4 ho3 ho2'
      go_wp2_with (go_at_call 6; refine (HS.out _ _ _ (HZ.out _ _ _) (HZ.out _ _ _)).mono ?_; rintro e w5 ⟨rfl, n5, hw5⟩; have hcb : w5.cell? ⟨g, 0, none⟩ = some (.string ⟨#[98, 101, 104, 105, 110, 100]⟩) := HCB.out w5 (by rw [hw5]; exact HO4.out); have hbb5 : Below w.heap.size w w5 := (by rw [hw5]; exact below_drewN hbb4 n5); clear hw5)
      go_returns
      exact ⟨rfl, hbb5⟩
    · go_enter Try.func3, Try.ntmps3
      go_wp2_with (at_builtin; refine wpList_append_own _ rfl _ _ 22 rfl w.heap.size 9 i0 (.string ⟨#[]⟩) 1 16 Try.underlying22 hi hz0 hz1 hz2 rfl (by decide) _ _ _ rfl (World.ownsRow_nil _ _ _ _) ad 0 c [] rfl rfl (fun j u hj => by simp at hj) (fun u hu => by simp at hu) (by decide) (by decide) (Nat.le_refl _) ?_)
      intro v1 w1 ho1 hg1 _
      have hbb1 : Below w.heap.size w w1 := (Below.refl _ w).grown hg1 (Nat.le_refl _) (fun k hk => by cases hk)
      have ho1' : w1.ownsRow w.heap.size 9 1 v1 0 [] := by simpa using ho1
      clear ho1 hg1
      have s1 := hbb1.size
      go_wp2_with (at_builtin; refine wpList_append_own _ rfl _ _ 22 rfl w.heap.size 9 i0 (.string ⟨#[]⟩) 1 16 Try.underlying22 hi hz0 hz1 hz2 rfl (by decide) _ _ _ rfl (ho1'.alloc _) ⟨w1.heap.size, 0, none⟩ 1 1 [.string bBehind] rfl rfl ?c1 ?c2 (by decide) (by decide) ?c5 ?_)
      case c1 =>
        intro j u hj
        match j, hj with
        | 0, hj => simp at hj; subst hj; simp [Addr.add, bBehind]
      case c2 => intro u hu; simp at hu; subst hu; rfl
      case c5 => simp; omega
      intro v2 w2 ho2 hg2 _
      have hbb2 : Below w.heap.size w w2 := (hbb1.alloc s1 _).grown hg2 (by simp; omega) (fun k hk => by cases hk)
      have ho2' : w2.ownsRow w.heap.size 9 1 v2 1 (strV [bBehind]) := by simpa [strV] using ho2
      clear ho2 hg2
      obtain ⟨g, cp, rfl, hcap, hcm, hBg, hgw⟩ := form_pos ho2' (by omega)
      have s2 := hbb2.size
      have kI : (0 : Int) ≤ (cp : Int) := by omega
      have HCB : Hid (∀ wx : World, wx.ownsRow w.heap.size 9 1 (.slice (some ⟨g, 0, none⟩) 1 cp) 1 (strV [bBehind]) → wx.cell? ⟨g, 0, none⟩ = some (.string ⟨#[98, 101, 104, 105, 110, 100]⟩)) := fun wx h => by
        have := own_cell h 0 (by simp)
        rw [this]; simp [List.getD, bBehind]
      go_wp2_with (go_at_call 4; refine (HJ.out _ _ (HZ.out _ _ _)).mono ?_; rintro e w3 ⟨rfl, hb3⟩)
      have s3 := hb3.size
      have hbb3 : Below w.heap.size w w3 := hbb2.trans (hb3.mono s2)
      have ho3 := own_below ho2' hb3 s2
      go_wp2_with (go_at_call 5; refine (HR.out _ _ (HZ.out _ _ _)).mono ?_; rintro e w4 ⟨rfl, hb4⟩)
      have hbb4 : Below w.heap.size w w4 := hbb3.trans (hb4.mono (Nat.le_trans s2 s3))
      have ho4 := own_below ho3 hb4 (Nat.le_trans s2 s3)
      have HO4 : Hid (w4.ownsRow w.heap.size 9 1 (.slice (some ⟨g, 0, none⟩) 1 cp) 1 (strV [bBehind])) := ho4
      clear ho4 ho3 ho2'
      go_wp2_with (go_at_call 6; refine (HS.out _ _ _ (HZ.out _ _ _) (HZ.out _ _ _)).mono ?_; rintro e w5 ⟨rfl, n5, hw5⟩; have hcb : w5.cell? ⟨g, 0, none⟩ = some (.string ⟨#[98, 101, 104, 105, 110, 100]⟩) := HCB.out w5 (by rw [hw5]; exact HO4.out); have hbb5 : Below w.heap.size w w5 := (by rw [hw5]; exact below_drewN hbb4 n5); clear hw5)
      go_returns
      exact ⟨rfl, hbb5⟩
  · obtain ⟨b, off, cap, rfl, hc⟩ : ∃ b off cap, v0 = .slice (some ⟨b, off, none⟩) l0.length cap ∧ ∀ j, j < l0.length → w.cell? ⟨b, off + j, none⟩ = some (.string (l0.getD j .empty)) := by
      rcases r0 with ⟨rfl, _⟩ | h
      · simp at hn0
      · exact h
    have HN : Hid (∀ j u, (strV l0)[j]? = some u → w.cell? ((⟨b, off, none⟩ : Addr).add j) = some u) := fun j u hj => row_cells hc j u hj
    have hcl : (strV l0).length = l0.length * 1 := by rw [strV_length]; omega
    have hb1m : 0 + l0.length ≤ maxLen := by unfold maxLen; omega
    have hb2m : (0 + l0.length) * 16 ≤ 140737488355328 := by omega
    clear hc hline
    go_enter Try.func3, Try.ntmps3
    go_wp2_with (at_builtin; refine wpList_append_own _ rfl _ _ 22 rfl w.heap.size 9 i0 (.string ⟨#[]⟩) 1 16 Try.underlying22 hi hz0 hz1 hz2 rfl (by decide) _ _ _ rfl (World.ownsRow_nil _ _ _ _) ⟨b, off, none⟩ l0.length cap (strV l0) rfl hcl HN.out (strV_one l0) hb1m hb2m (Nat.le_refl _) ?_)
    intro v1 w1 ho1 hg1 _
    have hbb1 : Below w.heap.size w w1 := (Below.refl _ w).grown hg1 (Nat.le_refl _) (fun k hk => by cases hk)
    have ho1' : w1.ownsRow w.heap.size 9 1 v1 l0.length (strV l0) := by simpa using ho1
    clear ho1 hg1
    have s1 := hbb1.size
    have hd1m : l0.length + 1 ≤ maxLen := by unfold maxLen; omega
    have hd2m : (l0.length + 1) * 16 ≤ 140737488355328 := by omega
    go_wp2_with (at_builtin; refine wpList_append_own _ rfl _ _ 22 rfl w.heap.size 9 i0 (.string ⟨#[]⟩) 1 16 Try.underlying22 hi hz0 hz1 hz2 rfl (by decide) _ _ _ rfl (ho1'.alloc _) ⟨w1.heap.size, 0, none⟩ 1 1 [.string bBehind] rfl rfl ?c1 ?c2 hd1m hd2m ?c5 ?_)
    case c1 =>
      intro j u hj
      match j, hj with
      | 0, hj => simp at hj; subst hj; simp [Addr.add, bBehind]
    case c2 => intro u hu; simp at hu; subst hu; rfl
    case c5 => simp; omega
    intro v2 w2 ho2 hg2 _
    have hbb2 : Below w.heap.size w w2 := (hbb1.alloc s1 _).grown hg2 (by simp; omega) (fun k hk => (ho1'.lt k hk).1)
    have ho2' : w2.ownsRow w.heap.size 9 1 v2 (l0.length + 1) (strV (l0 ++ [bBehind])) := by
      have e : strV (l0 ++ [bBehind]) = strV l0 ++ [.string bBehind] := by simp [strV]
      rw [e]; exact ho2
    obtain ⟨g, cp, rfl, hcap, hcm, hBg, hgw⟩ := form_pos ho2' (by omega)
    clear ho2 hg2 ho1'
    have hr2 : RowS w2 (.slice (some ⟨g, 0, none⟩) l0.length cp) l0 := by
      have := row_take ho2' (n := l0.length) (by omega) (by simp)
      simpa using this
    have kI : (l0.length : Int) ≤ (cp : Int) := by omega
    have kN : l0.length ≤ cp := by omega
    go_wp2_with (go_at_call 4; refine (HJ.out _ _ hr2).mono ?_; rintro e w3 ⟨rfl, hb3⟩)
    have s2 := hbb2.size
    have s3 := hb3.size
    have hbb3 : Below w.heap.size w w3 := hbb2.trans (hb3.mono s2)
    have hr3 : RowS w3 (.slice (some ⟨b, off, none⟩) l0.length cap) l0 := row_below HR0.out hbb3
    have ho3 := own_below ho2' hb3 s2
    go_wp2_with (go_at_call 5; refine (HR.out _ _ hr3).mono ?_; rintro e w4 ⟨rfl, hb4⟩)
    have s4 := hb4.size
    have hbb4 : Below w.heap.size w w4 := hbb3.trans (hb4.mono (Nat.le_trans s2 s3))
    have hr4 : RowS w4 (.slice (some ⟨b, off, none⟩) l0.length cap) l0 := row_below HR0.out hbb4
    have ho4 := own_below ho3 hb4 (Nat.le_trans s2 s3)
    have hq4 : RowS w4 (.slice (some ⟨g, 0, none⟩) l0.length cp) l0 := by
      have := row_take ho4 (n := l0.length) (by omega) (by simp)
      simpa using this
    have hcb : w4.cell? ⟨g, l0.length, none⟩ = some (.string ⟨#[98, 101, 104, 105, 110, 100]⟩) := by
      have := own_cell ho4 l0.length (by simp)
      rw [this]; simp [List.getD, bBehind]
    have kJ : (l0.length : Int) < (l0.length : Int) + 1 := by omega
    have hne0 : ((l0.length : Int) == 0) = false := beq_eq_false_iff_ne.2 (by omega)
    clear ho2' ho3 hb3 hr2 hr3
    have hp : 0 < (l0 ++ [bBehind]).length := by simp
    have hcbb : ∀ wx : World, wx.ownsRow w.heap.size 9 1 (.slice (some ⟨g, 0, none⟩) (l0.length + 1) cp) (l0.length + 1) (strV (l0 ++ [bBehind])) → wx.cell? ⟨g, l0.length, none⟩ = some (.string ⟨#[98, 101, 104, 105, 110, 100]⟩) := fun wx h => by
      have := own_cell h l0.length (by simp)
      rw [this]; simp [List.getD, bBehind]
    have HCB : Hid (∀ wx : World, wx.ownsRow w.heap.size 9 1 (.slice (some ⟨g, 0, none⟩) (l0.length + 1) cp) (l0.length + 1) (strV (l0 ++ [bBehind])) → wx.cell? ⟨g, l0.length, none⟩ = some (.string ⟨#[98, 101, 104, 105, 110, 100]⟩)) := hcbb
    clear hcbb
    obtain ⟨l1, hl1⟩ : ∃ l1, l1 = (l0 ++ [bBehind]).set 0 ⟨#[97, 110, 111, 116, 104, 101, 114]⟩ := ⟨_, rfl⟩
    have ll1 : l1.length = l0.length + 1 := by rw [hl1]; simp
    obtain ⟨m, hm⟩ : ∃ m, l0.length = m + 1 := ⟨l0.length - 1, by omega⟩
    obtain ⟨y, hy⟩ : ∃ y, y = l1.getD m .empty := ⟨_, rfl⟩
    obtain ⟨y0, hy0⟩ : ∃ y, y = (l0 ++ [bBehind]).getD 0 .empty := ⟨_, rfl⟩
    have kM : (l0.length : Int) - 1 = (m : Int) := by omega
    have kM1 : (m : Int) < (l0.length : Int) + 1 := by omega
    have kM2 : m < l1.length := by omega
    have HL2 : Hid (tot ((l1.set m (y ++ ⟨#[39]⟩)).take l0.length) ≤ 1048600) := by
      show _ ≤ _
      have e1 := tot_set' l1 m (y ++ ⟨#[39]⟩) kM2
      have e2 := tot_set (l0 ++ [bBehind]) 0 ⟨#[97, 110, 111, 116, 104, 101, 114]⟩
      have e3 := tot_take (l1.set m (y ++ ⟨#[39]⟩)) l0.length
      rw [← hl1, tot_behind, show (⟨#[97, 110, 111, 116, 104, 101, 114]⟩ : ByteArray).size = 7 from rfl] at e2
      rw [← hy, ByteArray.size_append, show (⟨#[39]⟩ : ByteArray).size = 1 from rfl] at e1
      omega
    have HM : Hid (l0.length = m + 1 ∧ l1.length = l0.length + 1) := ⟨hm, ll1⟩
    have HL1 : Hid (l1 = (l0 ++ [bBehind]).set 0 ⟨#[97, 110, 111, 116, 104, 101, 114]⟩) := hl1
    have HY : Hid (y = l1.getD m .empty) := hy
    have HY0 : Hid (y0 = (l0 ++ [bBehind]).getD 0 .empty) := hy0
    have ysz : y.size ≤ 1048600 := by
      have e1 := size_tot l1 m kM2
      have e2 := tot_set (l0 ++ [bBehind]) 0 ⟨#[97, 110, 111, 116, 104, 101, 114]⟩
      rw [← hl1, tot_behind, show (⟨#[97, 110, 111, 116, 104, 101, 114]⟩ : ByteArray).size = 7 from rfl] at e2
      rw [← hy] at e1
      omega
    clear hl1 hy0 hm hy ll1 hcb kM2
    have HO4 : Hid (w4.ownsRow w.heap.size 9 1 (.slice (some ⟨g, 0, none⟩) (l0.length + 1) cp) (l0.length + 1) (strV (l0 ++ [bBehind]))) := ho4
    clear ho4
    have STEP : Hid (∀ w5 : World, w5.ownsRow w.heap.size 9 1 (.slice (some ⟨g, 0, none⟩) (l0.length + 1) cp) (l0.length + 1) (strV (l0 ++ [bBehind])) →
        w5.cell? ⟨g, 0, none⟩ = some (.string y0) ∧ w5.frozen? ⟨g, 0, none⟩ = false ∧ (w5.setCell ⟨g, 0, none⟩ (.string ⟨#[97, 110, 111, 116, 104, 101, 114]⟩)).cell? ⟨g, m, none⟩ = some (.string y) ∧ (w5.setCell ⟨g, 0, none⟩ (.string ⟨#[97, 110, 111, 116, 104, 101, 114]⟩)).frozen? ⟨g, m, none⟩ = false) := fun w5 h => by
      have ho5 := own_set h 0 ⟨#[97, 110, 111, 116, 104, 101, 114]⟩
      rw [← HL1.out] at ho5
      refine ⟨by rw [HY0.out]; exact own_cell h 0 hp, h.frozenAt 0, ?_, ho5.frozenAt m⟩
      rw [HY.out]; exact own_cell ho5 m (by have := HM.out; omega)
    clear hp
    go_wp2_with (go_at_call 6; refine (HS.out _ _ _ hq4 hr4).mono ?_; rintro e w5 ⟨rfl, n5, hw5⟩; have HO5 : Hid (w5.ownsRow w.heap.size 9 1 (.slice (some ⟨g, 0, none⟩) (l0.length + 1) cp) (l0.length + 1) (strV (l0 ++ [bBehind]))) := (by show World.ownsRow _ _ _ _ _ _ _; rw [hw5]; exact HO4.out); have hbb5 : Below w.heap.size w w5 := (by rw [hw5]; exact below_drewN hbb4 n5); clear hw5; have hcb := HCB.out w5 HO5.out; obtain ⟨c0, f0, c5, f5⟩ := STEP.out w5 HO5.out)
    have ho6 : ((w5.setCell ⟨g, 0, none⟩ (.string ⟨#[97, 110, 111, 116, 104, 101, 114]⟩)).setCell ⟨g, m, none⟩ (.string (y ++ ⟨#[39]⟩))).ownsRow w.heap.size 9 1 (.slice (some ⟨g, 0, none⟩) (l0.length + 1) cp) (l0.length + 1) (strV (l1.set m (y ++ ⟨#[39]⟩))) := by
      refine own_set ?_ m _
      have := own_set HO5.out 0 ⟨#[97, 110, 111, 116, 104, 101, 114]⟩
      rwa [← HL1.out] at this
    have hbb6 : Below w.heap.size w ((w5.setCell ⟨g, 0, none⟩ (.string ⟨#[97, 110, 111, 116, 104, 101, 114]⟩)).setCell ⟨g, m, none⟩ (.string (y ++ ⟨#[39]⟩))) := (hbb5.setCell hBg _).setCell hBg _
    obtain ⟨l2, hl2⟩ : ∃ l2, l2 = (l1.set m (y ++ ⟨#[39]⟩)).take l0.length := ⟨_, rfl⟩
    have HT : Hid (∀ wx : World, wx.ownsRow w.heap.size 9 1 (.slice (some ⟨g, 0, none⟩) (l0.length + 1) cp) (l0.length + 1) (strV (l1.set m (y ++ ⟨#[39]⟩))) → RowS wx (.slice (some ⟨g, 0, none⟩) l0.length cp) l2) := fun wx h => by
      rw [hl2]; exact row_take h (by omega) (by have := HM.out; simp; omega)
    have ht2 : tot l2 ≤ 1048600 := by rw [hl2]; exact HL2.out
    have HJ2 : Hid (∀ v w, RowS w v l2 → Calls Try.prog 4 #[v] w fun e w' => e = .returned (.string (strB (ljoin l2))) ∧ Below w.heap.size w w') := fun v w h => join_c v l2 w h ht2
    have HR2 : Hid (∀ v w, RowS w v l2 → Calls Try.prog 5 #[v] w fun e w' => e = .returned (.string (strB (ljoin l2))) ∧ Below w.heap.size w w') := fun v w h => rjoin_c v l2 w h ht2
    obtain ⟨line2, hline2⟩ : ∃ line, line = strB (ljoin l2) := ⟨_, rfl⟩
    rw [← hline2] at HJ2 HR2
    obtain ⟨w6, hw6⟩ : ∃ w6, w6 = (w5.setCell ⟨g, 0, none⟩ (.string ⟨#[97, 110, 111, 116, 104, 101, 114]⟩)).setCell ⟨g, m, none⟩ (.string (y ++ ⟨#[39]⟩)) := ⟨_, rfl⟩
    rw [← hw6] at ho6 hbb6 ⊢
    have s6 := hbb6.size
    have hr6 := HT.out w6 ho6
    clear hw6 hl2 hline2 HL2 c0 f0 c5 f5 hcb hbb5 HO5 HO4 HCB STEP HL1 HY HY0 HJ HR HS hq4 hr4
    refine (HJ2.out _ _ hr6).mono ?_
    rintro e w7 ⟨rfl, hb7⟩
    have s7 := hb7.size
    have ho7 := own_below ho6 hb7 s6
    have hr7 := HT.out w7 ho7
    have hbb7 : Below w.heap.size w w7 := hbb6.trans (hb7.mono s6)
    clear HJ2
    go_wp2_with (go_at_call 5; refine (HR2.out _ _ hr7).mono ?_; rintro e w8 ⟨rfl, hb8⟩)
    go_returns
    exact ⟨rfl, hbb7.trans (hb8.mono (Nat.le_trans s6 s7))⟩

theorem contract (H : Type) (enc : TypeId × Value → H) (W : World) (base : Nat) (args : Array Value) (ds gs : List (DataW H)) (before : List MemPlace)
    (hval : ∀ (j : Nat) t v, Try.f3.params[j]? = some t → args[j]? = some v → Value.okWide Try.prog W .any base t v)
    (hW : DataW.Whole enc Try.prog Try.f3.params.toList Rows.textJoinSpec.vars false W args.toList ds gs before) (hk : Rows.uptoSmall H (ds ++ gs) = true) :
    Calls Try.prog 3 args W fun e W' => ∃ v, e = .returned v ∧ Rows.textJoinSpec.post enc Try.prog Try.f3 false true false false W args v W' := by
  have hW' := hW
  obtain ⟨p, q, hA0, hV, rfl, hfz, hnd⟩ := hW
  have hA : DataW.TrodAll enc Try.prog W 0 (fun _ => true) true Try.f3.params.toList args.toList ds p := hA0
  rw [Try.params3] at hA hval
  obtain ⟨v0, vs0, d0, ds0, p0, q0, hargs, rfl, rfl, h0, r0⟩ := trodAll_cons hA
  obtain ⟨rfl, rfl, rfl⟩ := trodAll_nil r0
  obtain rfl : args = #[v0] := by cases args; simp_all
  obtain ⟨rfl, rfl⟩ := trodVars_none hV
  obtain ⟨a0, len0, cap0, rfl⟩ := okWide_slice Try.underlying22 (hval 0 22 v0 rfl rfl)
  have k0 := h0
  have lt0 : ∀ x ∈ p0, x.block < W.heap.size := by obtain ⟨m, hm⟩ := k0; exact DataW.trod_lt m _ _ _ hm
  simp only [List.append_nil] at hk
  have hB : Rows.uptoBulkAll [d0] ≤ 1048576 := of_decide_eq_true hk
  obtain ⟨l0, w0, t0⟩ : ∃ l, RowS W (.slice a0 len0 cap0) l ∧ tot l ≤ 1048575 := by
    obtain ⟨fuel, hf⟩ := h0
    rcases open_strings Try.underlying22 Try.underlying9 (by kernel_rfl) hf with ⟨hcs, _⟩ | ⟨x, l, c, ss, hcs, _, hl, hm, hz, hd, hcell, hwz⟩
    · simp [Value.cells] at hcs
      obtain ⟨rfl, rfl, rfl⟩ := hcs
      exact ⟨[], .inl ⟨rfl, _, _, rfl⟩, by simp [tot]⟩
    · simp [Value.cells] at hcs
      obtain ⟨rfl, rfl, rfl⟩ := hcs
      have hd' := congrArg Prod.fst hd
      simp only [] at hd'
      subst hd'
      have hlen : ss.length = cap0 := by simpa using hz
      refine ⟨ss.take len0, ?_, ?_⟩
      · rcases Nat.eq_zero_or_pos len0 with h0 | h0
        · subst h0
          exact .inl ⟨by simp, _, _, rfl⟩
        · obtain ⟨b, off, spot⟩ := x
          have hc := hcell 0 (by omega)
          have hspot : spot = none := by simpa [Addr.add] using World.cell?_spot hc
          subst hspot
          refine .inr ⟨b, off, cap0, by rw [List.length_take, hlen, Nat.min_eq_left hl], fun j hj => ?_⟩
          rw [List.length_take, hlen, Nat.min_eq_left hl] at hj
          have hc := hcell j (by omega)
          have e : (⟨b, off, none⟩ : Addr).add j = ⟨b, off + j, none⟩ := by
            unfold Addr.add
            split
            · simp_all
            · simp
          rw [e] at hc
          rw [hc]
          simp [List.getD, hj]
      · simp only [Rows.uptoBulkAll, Rows.uptoBulk, bulk_strs] at hB
        omega
  clear hA0
  refine (walk (.slice a0 len0 cap0) l0 W w0 t0).mono fun e W' ⟨he, bel⟩ => ?_
  subst he
  exact ⟨_, rfl, _, _, _, [], _, [], hW', trodAll_mk1 (shut_bool Try.underlying4 _), (trodAll_cons_mk (Below.trod laidOut (by kernel_rfl) (of_decide_eq_true (by kernel_rfl)) k0 bel lt0) trodAll_mk0), rfl, bel.frame _, fun h => by cases h⟩
set_option maxRecDepth 100000 in
theorem lifted (os : Os) (started : os.Started) (H : Type) (enc : TypeId × Value → H) (F : Stop.Interp) :
    ReturnsInHanded {} Try.checked os 3 .any ((Rows.OpenSpec.upto Rows.textJoinSpec).pre6 enc Try.prog Try.f3 Rows.textJoinUptoRow.domain false) (((Rows.OpenSpec.upto Rows.textJoinSpec).at F).post enc Try.prog Try.f3 false true false false) := by
  refine returnsInHanded_of_cond (C := Try.checked) (s := Rows.OpenSpec.upto Rows.textJoinSpec) (k := Rows.uptoSmall) rfl own started (by kernel_rfl) Try.func3
    (OpenSpec.witness (enc := enc) (C := Try.checked) (s := Rows.OpenSpec.upto Rows.textJoinSpec) (k := Rows.uptoSmall) rfl false ⟨#[], #[.slice none 0 0], []⟩ 8 (by kernel_rfl) (by kernel_rfl) (by kernel_rfl)
      (x := ([.nil], [], [])) (by kernel_rfl) rfl (by kernel_rfl)) ?_
  intro W base args ds gs before hval hW _ hk _
  exact contract H enc W base args ds gs before hval hW hk
theorem proved : Rows.TextJoinUptoSaid :=
  OpenClaim.holds_of_cond 3 Try.f3 rfl rfl rfl rfl rfl rfl rfl ⟨rfl, rfl, rfl, rfl, rfl⟩ rfl rfl rfl rfl rfl (by kernel_rfl) Try.func3 (by kernel_rfl)
    (of_decide_eq_true (by kernel_rfl)) (by unfold Func.isWrapper; first | (rw [if_pos (by decide +kernel)]; kernel_rfl) | (rw [if_neg (by decide +kernel)]; exact ⟨rfl, rfl⟩))
    (fun os started H enc _ F => lifted os started H enc F)
end Go.Proofs.Ythdgkghefjnfgac.textJoin
namespace Go.Proofs.Ythdgkghefjnfgac
theorem textJoin_holds : Rows.TextJoinUptoSaid := textJoin.proved
#print axioms textJoin_holds
end Go.Proofs.Ythdgkghefjnfgac
