
-- round.
import Derived.Test.YtnnpdomfkedhpaaCS
namespace Go.Proofs.Ytnnpdomfkedhpaa
open Go.ChangeShapes Go.WideShapes Go.ChangeAt Go.RowKit Go.MapKept
set_option linter.unusedVariables false
set_option maxRecDepth 100000
def numL (Ls : List Lb) : List (Int × Lb) := Ls.zipIdx.map fun x => ((x.2 : Int), x.1)
theorem numL_get (Ls : List Lb) (i : Nat) : (numL Ls)[i]? = (Ls[i]?).map fun L => ((i : Int), L) := by
  unfold numL
  rw [List.getElem?_map, List.getElem?_zipIdx]
  cases Ls[i]? <;> simp
theorem numL_len (Ls : List Lb) : (numL Ls).length = Ls.length := by unfold numL; simp
theorem RowG.cv {w : World} {v : Value} {L : List (Lv × Int × Value)} {k : Nat} {x : Lv × Int × Value} (h : RowG cvL w v L) (hx : L[k]? = some x) : ∃ b off cap, v = .slice (some ⟨b, off, none⟩) L.length cap ∧ w.cell? ⟨b, off + k * 7, none⟩ = some x.1.e ∧ w.cell? ⟨b, off + k * 7 + 1, none⟩ = some x.1.a ∧ w.cell? ⟨b, off + k * 7 + 2, none⟩ = some x.1.n ∧ w.cell? ⟨b, off + k * 7 + 3, none⟩ = some x.1.f ∧ w.cell? ⟨b, off + k * 7 + 4, none⟩ = some x.1.g ∧ w.cell? ⟨b, off + k * 7 + 5, none⟩ = some (.int .i64 x.2.1) ∧ w.cell? ⟨b, off + k * 7 + 6, none⟩ = some x.2.2 := by
  obtain ⟨b, off, cap, e, _, _, hc⟩ := RowG.at cvL_len h hx
  exact ⟨b, off, cap, e, hc 0 _ rfl, hc 1 _ rfl, hc 2 _ rfl, hc 3 _ rfl, hc 4 _ rfl, hc 5 _ rfl, hc 6 _ rfl⟩
structure CatsAt (F : Nat → Prop) (w : World) (v : Value) (C : List (Lv × Int × Value)) (Ls : List Lb) : Prop where
  row : RowN F cvL w v C
  len : C.length = Ls.length
  ea : ∀ (i : Nat) (x : Lv × Int × Value) (L : Lb), C[i]? = some x → Ls[i]? = some L → ∃ b, x.2.1 = (i : Int) ∧ x.2.2 = .map (some b) ∧ CatAt F w x.1.e x.1.a x.1.n x.1.f x.1.g b L
theorem CatsAt.kp {F : Nat → Prop} {w w' : World} {v : Value} {C : List (Lv × Int × Value)} {Ls : List Lb} (h : CatsAt F w v C Ls) (hk : Kp F w w') : CatsAt F w' v C Ls := ⟨h.row.kp hk, h.len, fun i x L hx hL => by
  obtain ⟨b, h1, h2, h3⟩ := h.ea i x L hx hL
  exact ⟨b, h1, h2, h3.kp hk⟩⟩
set_option maxHeartbeats 4000000 in
theorem round_c (F : Nat → Prop) (g K M : Nat) (s : Lk) (v : Value) (C : List (Lv × Int × Value)) (Ls : List Lb) (w : World) (Pm : Nat) (hlim : Lim K M Pm (numL Ls)) (h : PgK F g K M s w) (hF : ∀ b, w.heap.size ≤ b → F b) (hC : CatsAt F w v C Ls) (hn : Ls.length ≤ 67108864)
    (hJ : muN (numL Ls) s + s.p.length ≤ Pm) :
    Calls Try.prog 13 #[.pointer (some ⟨g, 0, none⟩), v] w fun e w' => e = .returned (.bool (decide (s.p.length < (roundN (numL Ls) s).p.length))) ∧ PgK F g K M (roundN (numL Ls) s) w' ∧ Kp F w w' := by
  obtain ⟨a1, c1, q1, _, _⟩ := hC.row.row.form
  obtain ⟨n, hnn⟩ : ∃ n, n = C.length := ⟨_, rfl⟩
  have HN := hidK hnn
  have hl := hC.len
  rw [← hnn] at q1 hl
  rw [← hl] at hn
  subst q1
  have HL := hidK hl
  have HC := hidK hC
  have HF := hidK hF
  have HH := hidK h
  have HJ := hidK hJ
  have HLIM := hidK hlim
  obtain ⟨ap0, cp0, bw0, bp0, _, _, _, hcel0⟩ := h.open
  obtain ⟨c2, _, _⟩ := hcel0 _ (Below.refl _ _)
  obtain ⟨lp, hlp⟩ : ∃ lp, lp = s.p.length := ⟨_, rfl⟩
  have HLP := hidK hlp
  rw [← hlp] at c2
  clear h hnn hl hC hF hJ hlim hcel0 hlp
  go_enter Try.func13, Try.ntmps13
  go_wp2
  clear c2
  go_loopw [15] (fun i wx => ∃ k : Nat, i = .int .i64 k ∧ k ≤ n ∧ PgK F g K M (((numL Ls).take k).foldl (fun s x => srchN x.2 x.1 s) s) wx ∧ Kp F w wx) (fun i _ => n - (intOf i).toNat)
  case atStart => exact ⟨0, rfl, Nat.zero_le _, HH.out, Kp.refl _ _⟩
  case round =>
    obtain ⟨k, rfl, hkn, ho, hB⟩ := hrel
    have HO := hidK ho
    have HB0 := hidK hB
    clear ho
    by_cases hk : k < n
    · have kI : (k : Int) < (n : Int) := by omega
      have k0 : (0 : Int) ≤ (k : Int) := by omega
      have kw : IntKind.i64.wrap ((k : Int) + 1) = (k : Int) + 1 := by rw [IntKind.wrap_i64]; omega
      obtain ⟨⟨⟨xe, xa, xn, xf, xg⟩, xi, xm⟩, hx⟩ : ∃ x, C[k]? = some x := ⟨_, List.getElem?_eq_getElem (by have := HN.out; omega)⟩
      obtain ⟨L, hL⟩ : ∃ L, Ls[k]? = some L := ⟨_, List.getElem?_eq_getElem (by have := HL.out; omega)⟩
      have hcats := HC.out.kp hB
      obtain ⟨bm, e1, e2, hcat⟩ := hcats.ea k _ L hx hL
      simp only at e1 e2 hcat
      subst e1 e2
      obtain ⟨a0, l0, c0, a1', l1, c1', a2, l2, c2, a3, l3, c3, a4, l4, c4, e0, e1, e2, e3, e4⟩ := hcat.lib.slices
      subst e0 e1 e2 e3 e4
      obtain ⟨b1, o1, p1, ev, d0, d1, d2, d3, d4, d5, d6⟩ := hcats.row.row.cv hx
      injection ev with ev evb evc
      subst ev
      simp only at d0 d1 d2 d3 d4 d5 d6
      obtain ⟨E, hE⟩ : ∃ E, E = Obj.cells #[.slice a0 l0 c0, .slice a1' l1 c1', .slice a2 l2 c2, .slice a3 l3 c3, .slice a4 l4 c4, .int .i64 k, .map (some bm)] 69 := ⟨_, rfl⟩
      have bE : Below wr.heap.size wr (wr.alloc E) := (Below.refl _ wr).alloc (Nat.le_refl _) E
      have eE : (wr.alloc E).heap[wr.heap.size]? = some (.cells #[.slice a0 l0 c0, .slice a1' l1 c1', .slice a2 l2 c2, .slice a3 l3 c3, .slice a4 l4 c4, .int .i64 k, .map (some bm)] 69 (0, 0)) := by rw [heap_alloc_new, hE]
      obtain ⟨f0, f1, f2, f3, f4, f5, f6⟩ := cat_cells eE
      obtain ⟨t, ht⟩ : ∃ t, t = ((numL Ls).take k).foldl (fun s x => srchN x.2 x.1 s) s := ⟨_, rfl⟩
      have hnk : (numL Ls)[k]? = some ((k : Int), L) := by rw [numL_get, hL]; rfl
      have HT : Hid (((numL Ls).take (k + 1)).foldl (fun s x => srchN x.2 x.1 s) s = srchN L k t) := by
        show _ = _
        rw [takeSucc hnk, List.foldl_append, ← ht]; rfl
      have hmem := List.mem_of_getElem? hnk
      have hJt : muN (numL Ls) t + t.p.length ≤ Pm := by
        have h1 := (roundF_goes (Ls := numL Ls) ((numL Ls).take k) (fun x hx => List.mem_of_mem_take hx) s).mu
        rw [← ht] at h1
        have := HJ.out
        omega
      have hot : PgK F g K M t wr := by rw [ht]; exact HO.out
      have HSC : Hid (Calls Try.prog 21 #[.pointer (some ⟨g, 0, none⟩), .agg #[.slice a0 l0 c0, .slice a1' l1 c1', .slice a2 l2 c2, .slice a3 l3 c3, .slice a4 l4 c4, .int .i64 k, .map (some bm)]] (wr.alloc E) fun e w' => e = .returned (.tuple #[]) ∧ PgK F g K M (srchN L k t) w' ∧ Kp F w w') := (search_c F g K M t _ _ _ _ _ k bm L (wr.alloc E) (numL Ls) hmem Pm HLIM.out (hot.on bE) (fun b hb => HF.out b (Nat.le_trans hB.size (Nat.le_trans bE.size hb))) (hcat.kp (Kp.of_below bE)) hJt).mono (by
        rintro e w' ⟨q1, q2, q3⟩
        exact ⟨q1, q2, (hB.trans (Kp.of_below bE)).trans q3⟩)
      clear hcats hcat hx hL evb evc bE eE hB hot hJt hmem hnk ht
      subst hE
      go_wp2_with (go_at_call 21; refine HSC.out.mono ?_; rintro e w3 ⟨rfl, q1, q2⟩; have HP3 := hidK q1; have HK3 := hidK q2; clear q1 q2)
      go_roundw
      case rel => exact ⟨k + 1, by go_num, by omega, by rw [HT.out]; exact HP3.out, HK3.out⟩
      case measure => simp [intOf]; omega
    · obtain rfl : k = n := by omega
      have hO : PgK F g K M (roundN (numL Ls) s) wr := by
        have := HO.out
        rw [HL.out, ← numL_len, List.take_length] at this
        exact this
      obtain ⟨ap1, cp1, bw, bp, hgl, hsw, hsp, hcel⟩ := hO.open
      have c2 := (hcel wr (Below.refl _ _)).1
      obtain ⟨l2, hl2⟩ : ∃ l2, l2 = (roundN (numL Ls) s).p.length := ⟨_, rfl⟩
      rw [← hl2] at c2
      have HD : Hid (decide (s.p.length < (roundN (numL Ls) s).p.length) = decide ((lp : Int) < (l2 : Int))) := by
        show _ = _
        rw [← HLP.out, ← hl2]
        simp
      have HPO := hidK hO
      clear hO hcel hsw hsp hl2 HO
      go_wp2
      go_ret
      rw [HD.out]
      exact ⟨by simp, HPO.out, HB0.out⟩
end Go.Proofs.Ytnnpdomfkedhpaa
