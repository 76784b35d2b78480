
-- Is it a file's name? A number brought within bounds; a step that was just made.
import Derived.Test.YtjbphheojfclcaaGreatZT
import Derived.Lib.Strings
namespace Go.Proofs.YtjbphheojfclcaaGreat
open Go.ChangeShapes Go.WideShapes Go.ChangeAt Go.RowKit
set_option linter.unusedVariables false
set_option maxRecDepth 100000
variable {PS : (Nat → Prop) → Nat → St → World → Prop}
theorem idx4 (s : ByteArray) (k : Nat) (h : k < s.size) : ∀ w, (Instr.index 9 (.string s) (.int .i64 (k : Int))).run Tryz.prog w = .ok (.int .u8 (s[k].toNat : Int)) w := by
  intro w
  rw [run_index_string w 9 s .i64 k Tryz.underlying9, dif_pos (by omega)]
  simp
theorem all_at4 (s : ByteArray) (k : Nat) (h : k < s.size) : (s.data.toList.drop k).all okByte = (okByte s[k] && (s.data.toList.drop (k + 1)).all okByte) := by
  rw [List.drop_eq_getElem_cons (by simpa using h)]; rfl
set_option maxHeartbeats 4000000 in
theorem lawName_c (s : ByteArray) (w : World) (hs : s.size ≤ 140737488355328) : Calls Tryz.prog 12 #[.string s] w fun e w' => e = .returned (.bool (okName s)) ∧ w' = w := by
  go_enter Tryz.func12, Tryz.ntmps12
  go_wp2
  go_loop [3] (fun i => ∃ k : Nat, i = .int .i64 k ∧ k ≤ s.size ∧ s.data.toList.all okByte = (s.data.toList.drop k).all okByte) (fun i => s.size - (intOf i).toNat)
  case atStart => exact ⟨0, rfl, Nat.zero_le _, rfl⟩
  case round =>
    obtain ⟨k, rfl, hks, hE⟩ := hrel
    by_cases hk : k < s.size
    · have hidx := idx4 s k hk
      have b3 : decide ((k : Int) < (s.size : Int)) = true := by simp; omega
      rw [all_at4 s k hk] at hE
      obtain ⟨c, hc⟩ : ∃ c, c = s[k] := ⟨_, rfl⟩
      rw [← hc] at hidx hE
      have HE : Hid (s.data.toList.all okByte = (okByte c && (s.data.toList.drop (k + 1)).all okByte)) := hE
      clear hc hE
      by_cases c1 : c = 47
      · have b4 : ((c.toNat : Int) == 47) = true := by rw [c1]; rfl
        have HR : Hid (okName s = false) := by show _ = _; unfold okName; rw [HE.out, c1]; simp [okByte]
        have HC : Hid (c = 47) := c1
        clear c1
        go_wp2
        go_ret
        exact ⟨by rw [HR.out]; rfl, rfl⟩
      · have b4 : ((c.toNat : Int) == 47) = false := by
          have : c.toNat ≠ 47 := fun h => c1 (UInt8.toNat_inj.1 h)
          simp; omega
        by_cases c2 : c = 0
        · have b5 : ((c.toNat : Int) == 0) = true := by rw [c2]; rfl
          have HR : Hid (okName s = false) := by show _ = _; unfold okName; rw [HE.out, c2]; simp [okByte]
          have HC : Hid (c = 0) := c2
          clear c2
          go_wp2
          go_ret
          exact ⟨by rw [HR.out]; rfl, rfl⟩
        · have b5 : ((c.toNat : Int) == 0) = false := by
            have : c.toNat ≠ 0 := fun h => c2 (UInt8.toNat_inj.1 h)
            simp; omega
          have HR : Hid (s.data.toList.all okByte = (s.data.toList.drop (k + 1)).all okByte) := by show _ = _; rw [HE.out]; simp [okByte, c1, c2]
          go_wp2
          exact ⟨⟨k + 1, by go_num, by omega, HR.out⟩, by simp [intOf]; omega⟩
    · obtain rfl : k = s.size := by omega
      have b3 : decide ((s.size : Int) < (s.size : Int)) = false := by simp
      have hA : s.data.toList.all okByte = true := by
        rw [hE, show s.data.toList.drop s.size = [] from List.drop_eq_nil_of_le (by simp)]; rfl
      clear hE
      by_cases h0 : s = ⟨#[]⟩
      · subst h0
        go_wp2
        go_ret
        exact ⟨by rfl, rfl⟩
      · have h1 := empty_no h0
        have hs1 : 1 ≤ s.size := by
          rcases Nat.eq_zero_or_pos s.size with h | h
          · exact absurd (by cases s with | mk d => have e : d = #[] := Array.eq_empty_of_size_eq_zero h; rw [e]) h0
          · exact h
        have hl : s.toList.isEmpty = false := by
          cases h : s.toList with
          | nil => exact absurd h h1
          | cons _ _ => rfl
        by_cases h64 : s.size ≤ 64
        · have HR : Hid (okName s = true) := by show _ = _; unfold okName; rw [hA]; simp [hs1, h64]
          have b1 : decide ((s.size : Int) ≤ 64) = true := decide_eq_true (by omega)
          clear hA h0
          go_wp2
          go_ret
          exact ⟨by rw [HR.out]; rfl, rfl⟩
        · have HR : Hid (okName s = false) := by show _ = _; unfold okName; simp [h64]
          have b1 : decide ((s.size : Int) ≤ 64) = false := decide_eq_false (by omega)
          clear hA h0
          go_wp2
          go_ret
          exact ⟨by rw [HR.out]; rfl, rfl⟩
def bring (n : Int) (m : Nat) : Nat := min (max n 0).toNat m
set_option maxHeartbeats 4000000 in
theorem brought_c (n : Int) (m : Nat) (w : World) : Calls Tryz.prog 15 #[.int .i64 n, .int .i64 (m : Int)] w fun e w' => e = .returned (.int .i64 (bring n m : Nat)) ∧ w' = w := by
  by_cases h0 : n < 0
  · have hb : bring n m = 0 := by unfold bring; omega
    have b1 : decide (n < (0 : Int)) = true := by simpa using h0
    rw [hb]
    go_enter Tryz.func15, Tryz.ntmps15
    go_wp2
    go_ret
    exact ⟨rfl, rfl⟩
  · have b1 : decide (n < (0 : Int)) = false := by simpa using h0
    by_cases h1 : (m : Int) < n
    · have hb : bring n m = m := by unfold bring; omega
      have b2 : decide (n > (m : Int)) = true := by simp; omega
      rw [hb]
      go_enter Tryz.func15, Tryz.ntmps15
      go_wp2
      go_ret
      exact ⟨rfl, rfl⟩
    · have hb : ((bring n m : Nat) : Int) = n := by unfold bring; omega
      have b2 : decide (n > (m : Int)) = false := by simp; omega
      rw [hb]
      go_enter Tryz.func15, Tryz.ntmps15
      go_wp2
      go_ret
      exact ⟨rfl, rfl⟩
/-- A step of a kind and a name alone. -/
def opk (K : Int) (a : ByteArray) : Opv := ⟨K, 0, a, ⟨#[]⟩, 0, 0, 0, 0, .slice none 0 0, .slice none 0 0, [], []⟩
theorem opk_ok (K : Int) (a : ByteArray) (h : a.size ≤ 140737488355328) : OkC (opk K a) := ⟨⟨_, _, _, rfl⟩, ⟨_, _, _, rfl⟩, h⟩
def opkL (K : Int) (a : ByteArray) : List Value := [.int .i64 K, .int .i64 0, .string a, .string ⟨#[]⟩, .int .i64 0, .int .i64 0, .int .i64 0, .int .i64 0, .slice none 0 0, .slice none 0 0]
theorem opk_at {W : World} {b : Nat} {cs : Array Value} {t : TypeId} {fr : Nat × Nat} (h : W.heap[b]? = some (.cells cs t fr)) (off : Nat) (K : Int) (a : ByteArray) (hc : ∀ j, j < 10 → cs[off + j]? = (opkL K a)[j]?) : OpvAt W b off (opk K a) := by
  have key : ∀ j v, j < 10 → (opkL K a)[j]? = some v → W.cell? ⟨b, off + j, none⟩ = some v := fun j v hj hv => by
    rw [Lib.cell_of_heap h, hc j hj, hv]
  exact ⟨key 0 _ (by omega) rfl, key 1 _ (by omega) rfl, key 2 _ (by omega) rfl, key 3 _ (by omega) rfl, key 4 _ (by omega) rfl, key 5 _ (by omega) rfl, key 6 _ (by omega) rfl, key 7 _ (by omega) rfl, key 8 _ (by omega) rfl, key 9 _ (by omega) rfl⟩
section
variable {U : Nat → Prop} {va vb : Nat} {x y : Vl} {w W : World}
/-- The first's list of handles. -/
theorem T2.len1 (h : T2 PS U va vb x y W) : ∃ ao c, W.cell? ⟨va, 1, none⟩ = some (.slice ao x.hs.length c) := by
  obtain ⟨S1, S2, ⟨q, mv, G, hs, T⟩, -⟩ := h
  obtain ⟨ao, c, hm⟩ := own_shape T.row
  have hl : hs.length = x.hs.length := by rw [← T.eq, List.length_map]
  exact ⟨ao, c, by rw [T.cells.2.1, hm, hl]⟩
end
/-- A Write that is cut short, plainly. -/
theorem short_plain {x : Vl} (hp : x.v.plan = []) (hoff : x.v.off = false) {h : Hd} (hh : x.hs = [h]) (ho : h.shut = false ∧ h.round = x.v.round) (n : Int) (data : ByteArray) :
    ((∃ e, e ≠ 0 ∧ (x.call (opk 8 (part data n)).c).1 = { an0 with bad := true, op := opWrite, nm := h.name, e := e } ∧ ((x.arm [⟨1, 2, n⟩]).call (opk 8 data).c).1 = { an0 with bad := true, op := opWrite, nm := h.name, e := e }) ∨
     ((x.call (opk 8 (part data n)).c).1 = { an0 with n := (part data n).size } ∧ ((x.arm [⟨1, 2, n⟩]).call (opk 8 data).c).1 = { an0 with n := (part data n).size, bad := true, op := opWrite, nm := h.name, e := 40 })) ∧
    Sim (x.call (opk 8 (part data n)).c).2 (((x.arm [⟨1, 2, n⟩]).call (opk 8 data).c).2.arm []) := by
  obtain ⟨⟨st, pl, c, off, r⟩, hs⟩ := x
  simp only at hp hoff hh
  subst hp; subst hoff; subst hh
  have hcl : ∀ v : Vs, v.round = r → h.closed v = false := fun v hv => by unfold Hd.closed; rw [ho.1, hv, ho.2]; simp
  have hm1 := met_nil st c false r
  have hm2 := struck_met st 2 (.inr rfl) n r
  have hs2 : Vs.short ⟨st, [⟨1, 2, n⟩], 0, false, r⟩ = some n := by
    unfold Vs.short Vs.strikes hit
    simp
  have e1 : Vl.call ⟨⟨st, [], c, false, r⟩, [h]⟩ (opk 8 (part data n)).c = Vl.byH ⟨⟨st, [], c, false, r⟩, [h]⟩ (opk 8 (part data n)).c h := rfl
  have e2 : Vl.call (Vl.arm ⟨⟨st, [], c, false, r⟩, [h]⟩ [⟨1, 2, n⟩]) (opk 8 data).c = Vl.byH ⟨⟨st, [⟨1, 2, n⟩], 0, false, r⟩, [h]⟩ (opk 8 data).c h := rfl
  rw [e1, e2]
  have w1 : Vs.write ⟨st, [], c, false, r⟩ h (part data n) = if (st.append h.body (part data n)).1 ≠ 0 then ((0, (st.append h.body (part data n)).1), ⟨(st.append h.body (part data n)).2, [], c + 1, false, r⟩) else (((part data n).size, 0), ⟨(st.append h.body (part data n)).2, [], c + 1, false, r⟩) := by
    unfold Vs.write Vs.writeB
    rw [hcl _ rfl, hm1]
    simp [Vs.on]
  have w2 : Vs.write ⟨st, [⟨1, 2, n⟩], 0, false, r⟩ h data = if (st.append h.body (part data n)).1 ≠ 0 then ((0, (st.append h.body (part data n)).1), ⟨(st.append h.body (part data n)).2, [⟨1, 2, n⟩], 1, false, r⟩) else (((part data n).size, 40), ⟨(st.append h.body (part data n)).2, [⟨1, 2, n⟩], 1, false, r⟩) := by
    unfold Vs.write Vs.writeB
    rw [hcl _ rfl, hm2, hs2]
    simp [Vs.on]
  have b1 : Vl.byH ⟨⟨st, [], c, false, r⟩, [h]⟩ (opk 8 (part data n)).c h = (({ an0 with n := (Vs.write ⟨st, [], c, false, r⟩ h (part data n)).1.1 }).fail opWrite h.name (Vs.write ⟨st, [], c, false, r⟩ h (part data n)).1.2, ⟨(Vs.write ⟨st, [], c, false, r⟩ h (part data n)).2, [h]⟩) := rfl
  have b2 : Vl.byH ⟨⟨st, [⟨1, 2, n⟩], 0, false, r⟩, [h]⟩ (opk 8 data).c h = (({ an0 with n := (Vs.write ⟨st, [⟨1, 2, n⟩], 0, false, r⟩ h data).1.1 }).fail opWrite h.name (Vs.write ⟨st, [⟨1, 2, n⟩], 0, false, r⟩ h data).1.2, ⟨(Vs.write ⟨st, [⟨1, 2, n⟩], 0, false, r⟩ h data).2, [h]⟩) := rfl
  rw [b1, b2, w1, w2]
  by_cases hz : (st.append h.body (part data n)).1 ≠ 0
  · rw [if_pos hz, if_pos hz]
    refine ⟨.inl ⟨_, hz, ?_, ?_⟩, ⟨rfl, rfl, rfl, rfl, rfl⟩, rfl⟩
    · simp only [An.fail]; rw [if_neg hz]; rfl
    · simp only [An.fail]; rw [if_neg hz]; rfl
  · rw [if_neg hz, if_neg hz]
    exact ⟨.inr ⟨rfl, rfl⟩, ⟨rfl, rfl, rfl, rfl, rfl⟩, rfl⟩
/-- A new volume, a file made and written. -/
theorem began_plain (c : Nat) (name old : ByteArray) (hn : okName name = true) : ((Vl.new c).plays [(opk 4 name).c, (opk 8 old).c]).hs = [⟨name, 1, 0, false⟩] ∧ ((Vl.new c).plays [(opk 4 name).c, (opk 8 old).c]).v.round = 0 ∧ ((Vl.new c).plays [(opk 4 name).c, (opk 8 old).c]).v.plan = [] ∧ ((Vl.new c).plays [(opk 4 name).c, (opk 8 old).c]).v.off = false := by
  have h1 : ((Vl.new c).call (opk 4 name).c).2.hs = [⟨name, 1, 0, false⟩] := by
    have e : (Vl.new c).call (opk 4 name).c = (Vl.new c).made (opk 4 name).c := rfl
    have hcr : ((Vl.new c).v.create name 0 0 0 0).1 = (1, 0) := by
      have hs : ((St.new c).create name 0 0 0 0).1 = (1, 0) := by
        unfold St.create
        rw [if_neg (by rw [hn]; decide), if_neg (fun h => by have := h.2; simp [St.now, St.new] at this)]
        rfl
      show (if (Vs.met ⟨St.new c, [], 0, false, 0⟩).1 ≠ 0 then _ else _ : (Nat × Nat) × Vs).1 = _
      rw [met_nil, if_neg (fun h => h rfl)]
      exact hs
    have e2 : ((Vl.new c).v.create (opk 4 name).c.a (opk 4 name).c.m0 (opk 4 name).c.m1 (opk 4 name).c.m2 (opk 4 name).c.m3).1 = (1, 0) := hcr
    rw [e]
    unfold Vl.made
    rw [e2]
    rfl
  have h2 : ((Vl.new c).plays [(opk 4 name).c, (opk 8 old).c]).hs = ((Vl.new c).call (opk 4 name).c).2.hs := by
    show (((Vl.new c).call (opk 4 name).c).2.call (opk 8 old).c).2.hs = _
    generalize ((Vl.new c).call (opk 4 name).c).2 = x1
    have e3 : x1.call (opk 8 old).c = x1.byHandle (opk 8 old).c := rfl
    rw [e3]
    unfold Vl.byHandle
    split
    · rfl
    · rfl
  refine ⟨h2.trans h1, ?_, plays_plan _ _, plays_off _ _ rfl⟩
  show (((Vl.new c).call (opk 4 name).c).2.call (opk 8 old).c).2.v.round = _
  rw [call_round, call_round]; rfl
end Go.Proofs.YtjbphheojfclcaaGreat
