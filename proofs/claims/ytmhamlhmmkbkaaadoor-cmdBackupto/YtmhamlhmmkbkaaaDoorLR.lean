
-- readLetters: each letter of a word does what it does.
import Derived.Test.YtmhamlhmmkbkaaaDoorTU
import Derived.Lib.OthersKept
import Derived.Laws.RangeString
namespace Go.Proofs.YtmhamlhmmkbkaaaDoor
open Go.ChangeShapes Go.WideShapes Go.ChangeAt Go.RowKit Go.MapKept Go.Shelf
set_option linter.unusedVariables false
set_option maxRecDepth 100000
set_option linter.unusedSimpArgs false
def stG (st : Rd → UInt8 → Sum Int Rd) (r : Rd) : List UInt8 → Sum Int Rd
  | [b] => st r b
  | _ => .inl 153
def foldG (st : Rd → UInt8 → Sum Int Rd) : Rd → List (List UInt8) → Sum (List UInt8 × Int) Rd
  | r, [] => .inr r
  | r, x :: xs => match stG st r x with
    | .inl e => .inl (x, e)
    | .inr r' => foldG st r' xs
theorem stG_B (r : Rd) (l : List UInt8) : stG stB r l = stL r l := by
  cases l with
  | nil => rfl
  | cons a t => cases t <;> rfl
theorem foldG_B (l : List (List UInt8)) : ∀ r : Rd, foldG stB r l = foldR r l := by
  induction l with
  | nil => intro r; rfl
  | cons x xs ih =>
    intro r
    unfold foldG foldR
    rw [stG_B]
    cases stL r x with
    | inl e => rfl
    | inr r' => exact ih r'
def RlPost (w0 : World) (b : Nat) (w : World) (pr : Int) (anc arc : ByteArray) (L : List ByteArray) (s : Sum (List UInt8 × Int) Rd) (e : Ending) (w' : World) : Prop := match s with
  | .inl x => e = .returned (.tuple #[.string (byB x.1), .int .i64 x.2]) ∧ x.2 ≠ 0 ∧ Below w0.heap.size w0 w'
  | .inr r => e = .returned (.tuple #[.string ⟨#[]⟩, .int .i64 0]) ∧ Ln w0 b w' pr r anc arc L ∧ Kq b w w'
theorem zeroAct (w : World) : (zeroValue 70).run Tryd.prog w = .ok .nilFunc w := by
  have h : (Tryd.prog.info? 70).map (fun i => (i.zero, i.size, i.bytes)) = some (some .nilFunc, 1, 8) := by kernel_rfl
  obtain ⟨i0, hi, hz0, hz1, hz2⟩ := info_parts h
  simp [zeroValue, typeInfo, hi, hz0]
/-- the letter that stands first -/
theorem one_small {l : List UInt8} (hl : l ≠ []) (h : (l.getD 0 0).toNat < 128) : l.take (wid l) = [l.getD 0 0] ∧ valL l = (l.getD 0 0).toNat := by
  have h1 := head_small l hl h
  have h2 := (val_small l hl (l.getD 0 0).toNat h).2 ⟨h1, rfl⟩
  refine ⟨?_, h2⟩
  rw [wid_of h1]
  cases l with
  | nil => exact absurd rfl hl
  | cons a t => rfl
theorem one_great {st : Rd → UInt8 → Sum Int Rd} (hst : ∀ r (c : UInt8), 128 ≤ c.toNat → st r c = .inl 153) {l : List UInt8} (hl : l ≠ []) (h : ¬ (l.getD 0 0).toNat < 128) (r : Rd) : stG st r (l.take (wid l)) = .inl 153 ∧ 128 ≤ valL l := by
  constructor
  · cases l with
    | nil => exact absurd rfl hl
    | cons a t =>
      have hp := wid_pos (a :: t)
      obtain ⟨n, hn⟩ : ∃ n, wid (a :: t) = n + 1 := ⟨wid (a :: t) - 1, by omega⟩
      rw [hn, List.take_succ_cons]
      unfold stG
      split
      · next q =>
        injection q with q1 q2
        subst q1
        exact hst r _ (by simpa using h)
      · rfl
  · by_cases hv : valL l < 128
    · have := (val_small l hl (valL l) hv).1 rfl
      omega
    · omega
theorem i32ne {a c : Nat} (h : a ≠ c) : Value.int .i32 (a : Int) ≠ Value.int .i32 (c : Int) := by
  intro q
  injection q with _ q
  exact h (Int.ofNat_inj.1 q)
theorem Ln.iter {w0 : World} {b : Nat} {w : World} {pr : Int} {r : Rd} {anc arc : ByteArray} {L : List ByteArray} (h : Ln w0 b w pr r anc arc L) (k : Nat) (s : ByteArray) (pos : Nat) (hk : w0.heap.size ≤ k) (hb : b ≠ k) : Ln w0 b (w.iterAt k s pos) pr r anc arc L := by
  obtain ⟨a, n, c, h1, h2⟩ := h.box
  exact ⟨h.lo, Lib.below_iterAt h.bel hk s pos, h.ops, a, n, c, h1, (Lib.iterAt_other w k b s pos hb).trans h2⟩
theorem Kq.iter {b : Nat} {w wr : World} (h : Kq b w wr) (s : ByteArray) (pos : Nat) : Kq b w (wr.iterAt w.heap.size s pos) :=
  ⟨h.os, h.tape, h.output, by rw [Lib.iterAt_size]; exact h.size, fun j hj hl => (Lib.iterAt_other wr _ j s pos (by omega)).trans (h.block j hj hl)⟩
set_option maxHeartbeats 4000000 in
theorem letters_c (HD : DrOk) {st : Rd → UInt8 → Sum Int Rd} {P : Prs} (HA : ActOk st P) (w0 : World) (b m : Nat) (w : World) (pr : Int) (r : Rd) (anc arc : ByteArray) (L : List ByteArray) (s : ByteArray)
    (hT : TabU w0) (h : Ln w0 b w pr r anc arc L) (hM : MapAt (.int .i32) w m P) :
    Calls Tryd.prog 36 #[.pointer (some ⟨b, 0, none⟩), .string s, .map (some m)] w (RlPost w0 b w pr anc arc L (foldG st r (letL (byL s)))) := by
  have hmb : m ≠ b := by obtain ⟨_, _, _, _, h2⟩ := h.box; exact hM.ne_cells h2
  have hml := hM.lt
  obtain ⟨F, hF⟩ : ∃ F, F = foldG st r (letL (byL s)) := ⟨_, rfl⟩
  rw [← hF]
  have HT := hidK hT
  have HH := hidK h
  have HM := hidK hM
  have hkw : Kq b w (w.alloc (.stringIter s 0)) := Kq.ofBelow (bupK (Below.refl _ _) _)
  have HL0 := hidK (h.on (bupK (Below.refl _ _) (.stringIter s 0)))
  have HF := hidK hF
  clear hF hT h hM
  go_enter Tryd.func36, Tryd.ntmps36
  go_wp2
  go_loopw [] (fun wr => ∃ (pos : Nat) (r1 : Rd), pos ≤ s.size ∧ wr.heap[w.heap.size]? = some (.stringIter s pos) ∧ Ln w0 b wr pr r1 anc arc L ∧ Kq b w wr ∧ F = foldG st r1 (letL ((byL s).drop pos))) (fun wr => s.size - wr.iterPos w.heap.size)
  case atStart => exact ⟨0, r, Nat.zero_le _, (by have := World.iter_heap w s 0; simpa using this), HL0.out, hkw, HF.out⟩
  case round =>
    obtain ⟨pos, r1, hps, hit, hln, hkq, hfo⟩ := hrel
    have HFO := hidK hfo
    have HLN := hidK hln
    have hsz : w.heap.size < wr.heap.size := (Array.getElem?_eq_some_iff.1 hit).1
    clear hfo hln HL0 hkw HF
    by_cases hp : pos < s.size
    · have hd1 := dec_1 s pos
      have hd2 := dec_2 s pos hp
      have hwi := widB_in s pos hp
      have hw1 := wid_pos ((byL s).drop pos)
      have hne := dropB_ne s pos hp
      have hnx : ∀ ty, (Instr.next (.pointer (some ⟨w.heap.size, 0, none⟩)) true ty).run Tryd.prog wr = _ := fun ty => Lib.run_next_any_at wr w.heap.size s pos ty hit hp
      rw [hd1, hd2] at hnx
      have hcons : letL ((byL s).drop pos) = ((byL s).drop pos).take (wid ((byL s).drop pos)) :: letL ((byL s).drop (pos + wid ((byL s).drop pos))) := by
        rw [letL_cons _ hne, List.drop_drop]
      have HX : Hid (F = match stG st r1 (((byL s).drop pos).take (wid ((byL s).drop pos))) with
        | .inl e => .inl (((byL s).drop pos).take (wid ((byL s).drop pos)), e)
        | .inr r' => foldG st r' (letL ((byL s).drop (pos + wid ((byL s).drop pos))))) := by
        show _ = _
        rw [HFO.out, hcons]
        rfl
      obtain ⟨n, hn⟩ : ∃ n, n = wid ((byL s).drop pos) := ⟨_, rfl⟩
      have hsub : byL (s.extract pos s.size) = (byL s).drop pos := cutB s pos
      have hpos2 : 0 < (s.extract pos s.size).size := by rw [← byL_size, hsub, List.length_drop, byL_size]; omega
      have HFL : Hid (∀ W, Below w0.heap.size w0 W → Calls Tryd.prog 53 #[.string (s.extract pos s.size)] W fun e w' => e = .returned (.string (byB (((byL s).drop pos).take (wid ((byL s).drop pos))))) ∧ Below W.heap.size W w') := fun W hB => by
        have := first_c HD (s.extract pos s.size) W (HT.out.on hB) hpos2
        rw [hsub] at this
        exact this
      rw [← hn] at hnx hwi hw1 HX HFL
      have hit2 := Lib.iterAt_heap wr w.heap.size s pos (pos + n) hit
      have HIP : Hid (wr.iterPos w.heap.size = pos) := by show _ = _; simp only [World.iterPos, hit]
      have hbl : b < w.heap.size := by obtain ⟨_, _, _, _, h2⟩ := HH.out.box; exact (Array.getElem?_eq_some_iff.1 h2).1
      have hkq2 := hkq.iter s (pos + n)
      have hw0 : w0.heap.size ≤ w.heap.size := HH.out.bel.size
      have HL2 := hidK (HLN.out.iter w.heap.size s (pos + n) hw0 (by omega))
      have HM2 := hidK (HM.out.keep (hkq2.block m hmb hml))
      have HM2b := HM2.out
      obtain ⟨W1, hW1⟩ : ∃ W1, W1 = wr.iterAt w.heap.size s (pos + n) := ⟨_, rfl⟩
      rw [← hW1] at HL2 HM2 hkq2 hit2 hnx
      obtain ⟨l, hl⟩ : ∃ l, l = (byL s).drop pos := ⟨_, rfl⟩
      rw [← hl] at hne HX HFL hnx hn
      have hlen : (pos : Int) ≤ (s.size : Int) := by omega
      clear hW1 HLN HFO hcons hd1 hd2 hsub hpos2 hl hit hkq hsz HM2b
      obtain ⟨v, hv⟩ : ∃ v, v = valL l := ⟨_, rfl⟩
      rw [← hv] at hnx
      obtain ⟨x, hx⟩ : ∃ x, x = l.take n := ⟨_, rfl⟩
      rw [← hx] at HX HFL
      have HV := hidK hv
      have HXX := hidK hx
      have HN := hidK hn
      clear hv hx hn
      have hU : Tryd.prog.underlying 53 = some (.map 21 70) := Tryd.underlying53
      have hU2 : Tryd.prog.underlying 21 = some (.int .i32) := Tryd.underlying21
      by_cases hg : ∃ g, (Value.int .i32 (v : Int), Value.func (.func g) #[] #[]) ∈ P ∧ Enters Tryd.prog g ∧ Calls Tryd.prog g #[.pointer (some ⟨b, 0, none⟩), .int .i32 (v : Int)] W1 (ActPost w0 b W1 pr anc arc L (stG st r1 x))
      · obtain ⟨g, hg1, hge, hg2⟩ := hg
        have HE := hidK hge
        clear hge
        have hlk := HM2.out.look true hU hU2 (show IsKey (.int .i32) (.int .i32 (v : Int)) from rfl) hg1
        rw [if_pos rfl] at hlk
        have HLK := hidK hlk
        have HBE := hidK HL2.out.bel
        clear hlk hg1 HA
        cases hs : stG st r1 x with
        | inl e =>
          rw [hs] at HX hg2
          have HG := hidK hg2
          clear hg2 hs
          go_wp2_with (first
            | (refine wp_look _ rfl _ _ _ _ rfl (.map (some m)) (.int .i32 (v : Int)) (.tuple #[.func (.func g) #[] #[], .bool true]) rfl rfl HLK.out ?_)
            | (go_at_call 53; refine (HFL.out _ HBE.out).mono ?_; rintro e2 w2 ⟨rfl, b2⟩)
            | (refine wp_callV rfl rfl g (.pointer (some ⟨b, 0, none⟩)) (.int .i32 (v : Int)) rfl rfl rfl HE.out HG.out ?_; rintro e1 w1 ⟨rfl, hne0, hw1⟩; refine ⟨_, rfl, ?_⟩; rw [hw1]; clear hw1; have hz : (e != 0) = true := by simp [hne0]))
          go_ret2
          rw [HX.out]
          exact ⟨rfl, hne0, bel3K HBE.out b2⟩
        | inr r2 =>
          rw [hs] at HX hg2
          have HG := hidK hg2
          clear hg2 hs HFL
          go_wp2_with (first
            | (refine wp_look _ rfl _ _ _ _ rfl (.map (some m)) (.int .i32 (v : Int)) (.tuple #[.func (.func g) #[] #[], .bool true]) rfl rfl HLK.out ?_)
            | (refine wp_callV rfl rfl g (.pointer (some ⟨b, 0, none⟩)) (.int .i32 (v : Int)) rfl rfl rfl HE.out HG.out ?_; rintro e1 w1 ⟨rfl, l1, k1⟩; refine ⟨_, rfl, ?_⟩))
          go_roundw
          case rel => exact ⟨pos + n, r2, hwi, k1.keeps (by omega) hit2, l1, hkq2.two k1, HX.out⟩
          case measure =>
            have hk3 := k1.keeps (by omega) hit2
            have h5 : w1.iterPos w.heap.size = pos + n := by simp only [World.iterPos, hk3]
            rw [h5, HIP.out]
            omega
      · have hno : (∀ p ∈ P, p.1 ≠ Value.int .i32 (v : Int)) ∧ stG st r1 x = .inl 153 := by
          obtain ⟨hA1, hA2, hA3⟩ := HA
          by_cases hc : (l.getD 0 0).toNat < 128
          · obtain ⟨e1, e2⟩ := one_small hne hc
            rw [← HN.out, ← HXX.out] at e1
            rw [← HV.out] at e2
            rcases hA3 (l.getD 0 0) hc with ⟨g, g1, g3, g2⟩ | ⟨g1, g2⟩
            · refine absurd ⟨g, ?_, g3, ?_⟩ hg
              · rw [e2]; exact g1
              · rw [e2, e1]; exact g2 w0 b W1 pr r1 anc arc L HL2.out
            · rw [e2, e1]; exact ⟨g1, g2 r1⟩
          · obtain ⟨e1, e2⟩ := one_great hA2 hne hc r1
            rw [← HN.out, ← HXX.out] at e1
            rw [← HV.out] at e2
            refine ⟨?_, e1⟩
            intro p hp
            obtain ⟨k, hk, ek⟩ := hA1 p hp
            rw [ek]
            exact i32ne (by omega)
        obtain ⟨hn1, hn2⟩ := hno
        have hlk := HM2.out.look_no true hU hU2 (show IsKey (.int .i32) (.int .i32 (v : Int)) from rfl) hn1 (zeroAct W1)
        rw [if_pos rfl] at hlk
        have HLK := hidK hlk
        have HBE := hidK HL2.out.bel
        rw [hn2] at HX
        clear hlk hn1 hn2 HA hg
        go_wp2_with (first
            | (refine wp_look _ rfl _ _ _ _ rfl (.map (some m)) (.int .i32 (v : Int)) (.tuple #[.nilFunc, .bool false]) rfl rfl HLK.out ?_)
            | (go_at_call 53; refine (HFL.out _ HBE.out).mono ?_; rintro e2 w2 ⟨rfl, b2⟩)
            | (go_at_call 52; refine (lt_unknown _ _ _).mono ?_; rintro e1 w1 ⟨rfl, hw1⟩; rw [hw1]; clear hw1))
        go_ret2
        rw [HX.out]
        exact ⟨rfl, show (153 : Int) ≠ 0 from by decide, bel3K HBE.out b2⟩
    · have hnx : ∀ ty, (Instr.next (.pointer (some ⟨w.heap.size, 0, none⟩)) true ty).run Tryd.prog wr = _ := fun ty => Lib.run_next_end_at wr w.heap.size s pos ty hit hp
      have HE : Hid (F = .inr r1) := by
        show _ = _
        rw [HFO.out, List.drop_eq_nil_of_le (by rw [byL_size]; omega)]
        rfl
      clear HFO
      go_wp2
      go_ret2
      rw [HE.out]
      exact ⟨rfl, HLN.out, hkq⟩
end Go.Proofs.YtmhamlhmmkbkaaaDoor
