
-- commandLines: a text's command lines (2).
import Derived.Test.YtdamhdceajmdfaaDoorCM
import Derived.Sort.CutIn
namespace Go.Proofs.YtdamhdceajmdfaaDoor
open Go.RowKit Go.Shelf Go.ChangeShapes Go.WideShapes Go.ChangeAt Go.MapKept
set_option linter.unusedVariables false
set_option maxRecDepth 100000
set_option linter.unusedSimpArgs false
attribute [local go_sem] Oper.semAt_some
theorem plus_pos {m : List ByteArray} (h : isPlus m = true) : 0 < m.length := by
  cases m with
  | nil => cases h
  | cons a b => simp
theorem rowT_take19 {w : World} {ta : Option Addr} {m tc : Nat} {L : List ByteArray} (hm : m + 1 = L.length) (h : RowT w (.slice ta (m + 1) tc) L) : RowT w (.slice ta m tc) (L.take m) := by
  obtain ⟨ao, c, e, h1, h2, h3, h4⟩ := h
  injection e with e1 e2 e3
  subst e1; subst e3
  have hl : (L.take m).length = m := by rw [List.length_take]; omega
  refine ⟨ta, tc, by rw [hl], by omega, h2, h3, fun hp => ?_⟩
  obtain ⟨b, off, e, hc⟩ := h4 (by omega)
  refine ⟨b, off, e, fun j u hu => hc j u ?_⟩
  have hf : ∀ l : List ByteArray, l.flatMap txL = l.map Value.string := by intro l; induction l with | nil => rfl | cons y t ih => rw [List.flatMap_cons, ih]; rfl
  rw [hf, List.getElem?_map] at hu ⊢
  by_cases q : j < m
  · rw [List.getElem?_take_of_lt q] at hu; exact hu
  · rw [List.getElem?_eq_none (by rw [hl]; omega)] at hu; simp at hu
set_option maxHeartbeats 16000000 in
theorem cmdLines_c (s : ByteArray) (w : World) (hs : s.size ≤ 16777216) :
    Calls Tryd.prog 24 #[.string s] w fun e w' => ∃ v P, e = .returned v ∧ OwnL w.heap.size w' v P ∧ P.map (·.1) = groups ((linesL (byL s)).map tokL) ∧ Below w.heap.size w w' := by
  refine (callsIn_wide (n := 3)).1 ?_
  have HL : Hid (∀ w, CallsIn Fence.wide 2 Tryd.prog 36 #[.string s] w fun e w' => e = .returned (.func (.func 49) #[] #[.pointer (some ⟨w.heap.size, 0, none⟩)]) ∧ w' = w.alloc (.cells #[.string s] 9)) := fun w => callsIn_wide.2 (lines_c s w)
  refine callsIn_of_wp_marks Tryd.func24 rfl trivial ?_ rfl
  simp only [Tryd.ntmps24, List.size_toArray, List.length_cons, List.length_nil, Nat.reduceAdd, Nat.reduceSub, Array.replicate_succ, Array.replicate_zero, List.push_toArray, List.append_toArray, List.nil_append, List.cons_append]
  gi_wp2_with (refine ⟨trivial, ?_⟩; gi_at_call 36; refine (HL.out _).mono ?_; rintro e w' ⟨rfl, hw'⟩; subst w')
  obtain ⟨S, hS⟩ : ∃ S, S = w.heap.size := ⟨_, rfl⟩
  obtain ⟨W0, hW0⟩ : ∃ W0, W0 = ((((w.alloc (.cells #[.slice none 0 0] 57)).alloc (.cells #[.int .i64 0] 3)).alloc (.cells #[.bool false] 4)).alloc (.cells #[.string s] 9)) := ⟨_, rfl⟩
  have z0 : W0.heap.size = S + 4 := by rw [hW0, hS]; simp only [World.size_alloc]
  have a1 := heap_alloc_new w (.cells #[.slice none 0 0] 57)
  have a2 := heap_new2K w (.cells #[.slice none 0 0] 57) (.cells #[.int .i64 0] 3)
  have a3 := heap_new3K w (.cells #[.slice none 0 0] 57) (.cells #[.int .i64 0] 3) (.cells #[.bool false] 4)
  have a4 := heap_alloc_new (((w.alloc (.cells #[.slice none 0 0] 57)).alloc (.cells #[.int .i64 0] 3)).alloc (.cells #[.bool false] 4)) (.cells #[.string s] 9)
  simp only [World.size_alloc] at a4
  have b0 : Below w.heap.size w W0 := by rw [hW0]; exact bupK (bupK (bupK (bupK (Below.refl _ _) _) _) _) _
  have i0 : ClI S w [] (.slice none 0 0) false 0 W0 := by
    refine ⟨?_, ?_, ?_, ⟨OwnF.nil, by simp, by simp⟩, by rw [hS]; exact b0, by omega⟩
    · rw [hW0, hS]; exact hupK (hupK (hupK a1 _) _) _
    · rw [hW0, hS]; exact hupK (hupK a2 _) _
    · rw [hW0, hS]; exact hupK a3 _
  have zb : W0.heap[S + 3]? = some (.cells #[.string s] 9 (0, 0)) := by rw [hW0, hS]; exact a4
  change Code.wpIn Fence.wide 3 Tryd.prog _ _ _ ((((w.alloc (.cells #[.slice none 0 0] 57)).alloc (.cells #[.int .i64 0] 3)).alloc (.cells #[.bool false] 4)).alloc (.cells #[.string s] 9))
  rw [← hW0, ← hS]
  have hSw : S ≤ w.heap.size := by omega
  have HZ : Hid (W0.heap.size = S + 4) := z0
  clear hW0 a1 a2 a3 a4 b0
  have hTn : ∀ (pre : List (List UInt8)) (W W' : World), ClR S w pre W → Tn (S + 3) W0.heap.size W W' → ClR S w pre W' := fun pre W W' h k => by
    obtain ⟨P, v, ct, h1, h2⟩ := h
    exact ⟨P, v, ct, h1.tn (by rw [z0] at k; exact k), h2⟩
  have hseq := lines_seq 2 (S + 3) s W0 zb hs
  have HS : Hid (S = w.heap.size) := hS
  have hqz : S + 3 < W0.heap.size := by omega
  clear hS z0
  refine rangeT (q := S + 3) hqz rfl (by omega) (gf := 49) (lb := #[.pointer (some ⟨S + 1 + 1 + 1, 0, none⟩)]) rfl trivial (enters_of Tryd.func49 (by kernel_rfl) rfl) hseq Kb.trans (fun W l o o' hl h1 h2 ob hob => (World.putObj_heap_other (by omega)).trans hob) (fun _ => rfl)
    (ClR S w) (fun _ _ _ => False) hTn (fun _ _ _ _ h _ => h)
    ⟨[], _, false, i0, rfl, by simp, by simp, by simp⟩
    (fun x a' W => a' = { tmps := #[.string s, undef, .slice none 0 0, .pointer (some ⟨S, 0, none⟩), .pointer (some ⟨S + 1, 0, none⟩), .pointer (some ⟨S + 1 + 1, 0, none⟩), .string (byB x), undef, undef, .string s, .func (.func 49) #[] #[.pointer (some ⟨S + 1 + 1 + 1, 0, none⟩)], .string (byB x), undef, undef, undef, undef, undef, undef, undef, undef, undef, undef, undef, undef, undef, undef, undef, undef, undef, undef, undef, undef, undef, undef, undef, undef, undef, undef, undef, undef, undef, undef, undef, undef, undef, undef, undef], defers := [] })
    (fun x a' _ W W' h _ => h)
    ?assign ?body ?done ?stop
  case assign =>
    intro l pre x W K hi hK
    have hk' := hK { tmps := #[.string s, undef, .slice none 0 0, .pointer (some ⟨S, 0, none⟩), .pointer (some ⟨S + 1, 0, none⟩), .pointer (some ⟨S + 1 + 1, 0, none⟩), .string (byB x), undef, undef, .string s, .func (.func 49) #[] #[.pointer (some ⟨S + 1 + 1 + 1, 0, none⟩)], .string (byB x), undef, undef, undef, undef, undef, undef, undef, undef, undef, undef, undef, undef, undef, undef, undef, undef, undef, undef, undef, undef, undef, undef, undef, undef, undef, undef, undef, undef, undef, undef, undef, undef, undef, undef, undef], defers := [] } W (KeepsFrom.refl _ _) (fun o h => h) hi rfl
    clear hK
    unfold encS
    gi_wp2
    exact hk'
  case body =>
    rintro l pre x a' W ⟨P, v, ct, hI, hst, hbd, hln, hne⟩ rfl hok
    obtain ⟨hto, hpl⟩ := raw_tot s hok
    have HXL : Hid (x.length ≤ 16777216) := by show _ ≤ _; omega
    have HTR : Hid (∀ w, CallsIn Fence.wide 0 Tryd.prog 38 #[.string (byB x), .string ⟨#[10]⟩] w fun e w' => e = .returned (.string (byB (trimN x))) ∧ w' = w) := fun w => by
      refine callsIn_wide.2 ((Tryd.strings_TrimSuffix (byB x) ⟨#[10]⟩ w (by rw [byB_size]; omega)).mono ?_)
      rintro e w' ⟨rfl, rfl⟩
      exact ⟨rfl, rfl⟩
    have HTK : Hid (∀ w, CallsIn Fence.wide 0 Tryd.prog 37 #[.string (byB (trimN x))] w fun e w' => ∃ v, e = .returned v ∧ OwnT w.heap.size w' v (tkL x) ∧ Below w.heap.size w w') := fun w => by
      have := tokens_c (byB (trimN x)) w (by rw [byB_size]; have := trimN_len x; omega)
      rw [byL_byB] at this
      exact callsIn_wide.2 this
    have HCT : Hid (∀ v wx, RowT wx v (tkL x) → CallsIn Fence.wide 0 Tryd.prog 39 #[v] wx fun e w' => e = .returned (.bool (isPlus (tkL x))) ∧ w' = wx) := fun v wx hr => callsIn_wide.2 (isCont_c v (tkL x) wx hr (by have := tkL_len x; omega))
    have nw : IntKind.i64.wrap ((pre.length : Int) + 1) = (pre.length : Int) + 1 := by rw [IntKind.wrap_i64]; omega
    have HI0 := hidK hI
    have cn := cell_rowK hI.num 0 _ rfl
    have HST : Hid (stF pre = (P.map (·.1), ct, pre.length)) := hst
    have HBB : Hid (∀ p ∈ P.map (·.1), p.2.length ≤ 2 * totP pre) := fun p hp => by obtain ⟨q, hq, rfl⟩ := List.mem_map.1 hp; exact hbd q hq
    have HLL : Hid ((P.map (·.1)).length ≤ pre.length) := by show _ ≤ _; rw [List.length_map]; exact hln
    have HTP : Hid (2 * totP pre ≤ 33554432) := by show _ ≤ _; unfold totP; omega
    clear hst hbd hTn hseq hI i0 zb HL hto
    gi_upto_region 7 with (refine wpListIn_store_kz rfl rfl _ _ _ rfl (S + 1) 0 (.int .i64 ((pre.length : Int) + 1)) rfl rfl _ _ #[.int .i64 ((pre.length : Int) + 1)] HI0.out.num info3 rfl rfl rfl ?_; intro W1 R1 q1)
    have I1 := hidK (HI0.out.setN (m := pre.length + 1) hSw q1 R1)
    have F1 : Hid (Fz S W W1) := Fz.kp (T := fun k => k = S + 1) (Kp.kq q1 rfl) (fun k e => .inr (.inl e))
    clear HI0 R1 q1 cn
    have cc := cell_rowK I1.out.con 0 _ rfl
    cases ct
    · have cl := cell_rowK I1.out.lst 0 _ rfl
      have cn := cell_rowK I1.out.num 0 _ rfl
      obtain ⟨va, vc, hv, _⟩ := I1.out.own.row.form
      obtain ⟨pl, hpl'⟩ : ∃ pl, pl = P.length := ⟨_, rfl⟩
      rw [← hpl'] at hv
      subst hv
      have HOW : Hid (OwnF (fun b => S + 4 ≤ b) clL 2 60 (W1.alloc (.cells #[.int .i64 ((pre.length + 1 : Nat) : Int), .slice none 0 0] 60)) (.slice va pl vc) P) := I1.out.own.row.on (bupK (Below.refl _ _) _)
      have HNW : Hid (RowG clL (W1.alloc (.cells #[.int .i64 ((pre.length + 1 : Nat) : Int), .slice none 0 0] 60)) (.slice (some ⟨W1.heap.size, 0, none⟩) 1 1) [((pre.length + 1, []), .slice none 0 0)]) := rowG_new elC W1 ((pre.length + 1, []), .slice none 0 0) #[.int .i64 ((pre.length + 1 : Nat) : Int), .slice none 0 0] rfl
      have HBD0 : Hid ((P.length + ([((pre.length + 1, []), .slice none 0 0)] : List Cl).length) * (32 + 1) ≤ 140737488355328) := by show _ ≤ _; simp only [List.length_cons, List.length_nil]; omega
      have HUF0 : Hid (∀ b, (W1.alloc (.cells #[.int .i64 ((pre.length + 1 : Nat) : Int), .slice none 0 0] 60)).heap.size ≤ b → S + 4 ≤ b) := fun b hb => by rw [World.size_alloc] at hb; have := I1.out.size; omega
      have HONE : Hid (∀ m ∈ ([((pre.length + 1, []), .slice none 0 0)] : List Cl), ∀ u ∈ clL m, u.oneCell' = true) := by intro m hm u hu; simp at hm; subst hm; simp [clL] at hu; rcases hu with rfl | rfl <;> rfl
      have hlS : ∀ k, (Value.slice va pl vc).ownBlock = some k → S + 4 ≤ k := fun k hk => I1.out.own.row.2 k hk
      have HGG : Hid ((if false = true then P.map (·.1) else P.map (·.1) ++ [(pre.length + 1, [])]) = P.map (·.1) ++ [(pre.length + 1, [])]) := by show _ = _; simp
      have HTL : Hid (([] : List ByteArray).length ≤ 33554432) := by show _ ≤ _; simp
      clear hpl' hne
      gi_upto_region 9 with first
        | (refine wpGIn_all (F := fun b => S + 4 ≤ b) elC rfl _ _ rfl (.slice va pl vc) (.slice (some ⟨W1.heap.size, 0, none⟩) 1 1) P [((pre.length + 1, []), .slice none 0 0)] rfl rfl HOW.out HNW.out HONE.out HBD0.out HUF0.out ?_; intro v2 w2 o2 k2 n2; obtain ⟨v2a, v2c, hv2, _⟩ := o2.form; obtain ⟨v2n, hv2n⟩ : ∃ k, k = (P ++ [((pre.length + 1, []), Value.slice none 0 0)]).length := ⟨_, rfl⟩; rw [← hv2n] at hv2; subst hv2; clear hv2n; have hl2 : w2.heap[S]? = some (.cells #[.slice va pl vc] 57 (0, 0)) := (k2.block S (by rw [World.size_alloc]; have := I1.out.size; omega) (fun e => by have := hlS S e; omega)).trans (hupK I1.out.lst _))
        | (refine wpListIn_store_kz rfl rfl _ _ _ rfl S 0 (.slice v2a v2n v2c) rfl rfl _ _ #[.slice v2a v2n v2c] hl2 info57 rfl rfl rfl ?_; intro W3 R3 q3)
      obtain ⟨I3, F3⟩ := I1.out.add hSw (bupK (Below.refl _ _) _) o2 k2 q3 R3
      have HI := hidK I3
      have HF := hidK (F1.out.trans F3)
      obtain ⟨v, hv⟩ : ∃ v, v = Value.slice v2a v2n v2c := ⟨_, rfl⟩
      rw [← hv] at HI
      obtain ⟨Q, hQ⟩ : ∃ Q, Q = P := ⟨_, rfl⟩
      obtain ⟨n, hn⟩ : ∃ n, n = pre.length + 1 := ⟨_, rfl⟩
      obtain ⟨t, ht⟩ : ∃ t : List ByteArray, t = [] := ⟨_, rfl⟩
      obtain ⟨u, hu⟩ : ∃ u : Value, u = .slice none 0 0 := ⟨_, rfl⟩
      have HI2 : Hid (ClI S w (Q ++ [((n, t), u)]) v false (pre.length + 1) W3) := by rw [hQ, hn, ht, hu]; exact HI.out
      have HGG2 : Hid ((if false = true then P.map (·.1) else P.map (·.1) ++ [(pre.length + 1, [])]) = Q.map (·.1) ++ [(n, t)]) := by rw [hQ, hn, ht]; exact HGG.out
      have HTL2 : Hid (t.length ≤ 33554432) := by rw [ht]; exact HTL.out
      clear HI HGG HTL hQ hn ht hu hv I3 F3 o2 k2 n2 R3 q3 hl2 HOW HNW HBD0 HUF0 HONE hlS I1 F1 cl cn cc HTP
      have HI := HI2
      have HGG := HGG2
      have HTL := HTL2
      clear HI2 HGG2 HTL2
      cases hpl : isPlus (tkL x)
      · have HPL := hidK hpl
        have HTk := hidK (HTK.out W3)
        have hs3 := HI.out.size
        gi_upto_region 10 with first | (refine ⟨trivial, ?_⟩; gi_at_call 38; refine (CallsIn.inRound l (HTR.out _)).mono ?_; rintro e w9 ⟨rfl, h9⟩; rw [h9]; clear h9) | (refine ⟨trivial, ?_⟩; gi_at_call 37; refine (CallsIn.inRound l HTk.out).mono ?_; rintro e W4 ⟨tv, rfl, ht4, hb4⟩)
        have I4 := hidK (HI.out.on hb4)
        have F4 := hidK (HF.out.trans (Fz.on hb4))
        have HIC := hidK (HCT.out tv W4 ht4.row)
        rw [hpl] at HIC
        clear hpl
        have T4 := hidK ht4
        obtain ⟨ta, tc, htv⟩ := ht4.sl
        obtain ⟨tn, htn⟩ : ∃ tn, tn = (tkL x).length := ⟨_, rfl⟩
        have HTN := hidK htn
        rw [← htn] at htv
        have htl : tn ≤ 33554432 := by rw [htn]; have h1 := tkL_len x; have h2 := HXL.out; omega
        have hcap : tn ≤ tc := by obtain ⟨ao, c, q, z1, _⟩ := ht4.row; rw [htv] at q; injection q with _ _ q; omega
        subst htv
        clear ht4 hb4 htn HTk HI HF
        gi_upto_region 11 with first | (refine ⟨trivial, ?_⟩; gi_at_call 39; refine (CallsIn.inRound l HIC.out).mono ?_; rintro e w9 ⟨rfl, h9⟩; rw [h9]; clear h9) | (refine wpListIn_store_kz rfl rfl _ _ _ rfl (S + 1 + 1) 0 (.bool false) rfl rfl _ _ #[.bool false] I4.out.con info4 rfl rfl rfl ?_; intro W5 R5 q5)
        have I5 := hidK (I4.out.setC hSw q5 R5)
        have F5 := hidK (F4.out.trans (Fz.kp (T := fun k => k = S + 1 + 1) (Kp.kq q5 rfl) (fun k e => .inr (.inr (.inl e)))))
        have c5 := cell_rowK R5 0 _ rfl
        have T5 : Hid (RowT W5 (.slice ta tn tc) (tkL x)) := ((T4.out.f.keep fun g hg => q5.block g (by have := own_lo T4.out g hg; omega) (T4.out.f.lt g hg)).t).row
        clear R5 q5 I4 F4 T4 HIC
        obtain ⟨g, cap, cur, hv, hg, hcu, hcp, hcm, hcs⟩ := I5.out.open
        have cl := cell_rowK I5.out.lst 0 _ rfl
        have cu := cell_rowK hg (Q.length * 2 + 1) _ hcu
        subst hv
        have HG := hidK hg
        unfold maxLen at hcm

        have TM : Hid (RowT W5 (.slice ta tn tc) (cutP (tkL x))) := by
          show RowT _ _ _
          have e : cutP (tkL x) = tkL x := by unfold cutP; rw [if_neg (by rw [HPL.out]; simp)]
          rw [e]; exact T5.out

        have hqm : Q.length ≤ 9223372036854775806 := by omega
        have lw : IntKind.i64.wrap ((Q.length : Int) + 1 - 1) = (Q.length : Int) := by rw [IntKind.wrap_i64]; omega
        have lw2 : IntKind.i64.wrap (Q.length : Int) = (Q.length : Int) := by rw [IntKind.wrap_i64]; omega
        have l0 : (0 : Int) ≤ (Q.length : Int) := by omega
        have l1 : (Q.length : Int) < (Q.length : Int) + 1 := by omega
        obtain ⟨ql, hql⟩ : ∃ ql, ql = Q.length := ⟨_, rfl⟩
        have HQL := hidK hql
        have HOT : Hid (OwnF (fun b => S + 4 ≤ b) txL 1 9 W5 u t) := (I5.out.own.toks ((n, t), u) (by simp)).f
        have HBD : Hid ((t.length + (cutP (tkL x)).length) * (16 + 1) ≤ 140737488355328) := by show _ ≤ _; have h1 := HTL.out; have h2 := tkL_len x; have h3 := cutP_len (tkL x); have h4 := HXL.out; omega
        have HUF : Hid (∀ b, W5.heap.size ≤ b → S + 4 ≤ b) := fun b hb => Nat.le_trans I5.out.size hb
        obtain ⟨ua, un, uc, hus⟩ : ∃ ua un uc, u = .slice ua un uc := by obtain ⟨a, b, q⟩ := (I5.out.own.toks ((n, t), u) (by simp)).sl; exact ⟨a, _, b, q⟩
        subst hus
        have HCS := hidK hcs
        have HCP := hidK hcp
        rw [← hql] at cl
        rw [← hql] at cu
        rw [← hql] at lw
        rw [← hql] at lw2
        rw [← hql] at l0
        rw [← hql] at l1
        clear hg hcu hcs hcp hcm hcap T5 hql
        gi_upto_region 14 with fail
        gi_wp2_with first
          | (refine wpGIn_all (F := fun b => S + 4 ≤ b) elT rfl _ _ rfl (.slice ua un uc) (.slice ta tn tc) t (cutP (tkL x)) rfl rfl HOT.out TM.out (fun m _ => txL_one m) HBD.out HUF.out ?_; intro u6 w6 o6 k6 n6; obtain ⟨u6a, u6c, hu6, _⟩ := o6.form; have hg6 : w6.heap[g]? = some (.cells cur 60 (0, 0)) := (k6.block g (Array.getElem?_eq_some_iff.1 HG.out).1 (fun e => ne_ty HOT.out HG.out (by decide) e)).trans HG.out; obtain ⟨u6n, hu6n⟩ : ∃ k, k = (t ++ cutP (tkL x)).length := ⟨_, rfl⟩; rw [← hu6n] at hu6; subst hu6; clear hu6n)
          | (refine wpListIn_store_kz rfl rfl _ _ _ rfl g (ql * 2 + 1) (.slice u6a u6n u6c) rfl rfl _ _ _ hg6 info26 (by have h1 := HCS.out; have h2 := HCP.out; have h3 := HQL.out; exact Nat.ble_eq_true_of_le (by show ql * 2 + 1 + 1 ≤ cur.size; omega)) rfl rfl ?_; intro W7 R7 q7)
        rw [HQL.out] at R7
        obtain ⟨I7, F7⟩ := ClI.last hSw I5.out HG.out o6 k6 n6 q7 R7
        have FF := F5.out.trans F7
        have RR := ClR.step (by rw [HPL.out]; exact I7) _ _ HST.out HGG.out HBB.out HLL.out
        exact ⟨by rw [HZ.out]; exact FF.from, FF.box, RR⟩
      · have HPL := hidK hpl
        have HTk := hidK (HTK.out W3)
        have hs3 := HI.out.size
        gi_upto_region 10 with first | (refine ⟨trivial, ?_⟩; gi_at_call 38; refine (CallsIn.inRound l (HTR.out _)).mono ?_; rintro e w9 ⟨rfl, h9⟩; rw [h9]; clear h9) | (refine ⟨trivial, ?_⟩; gi_at_call 37; refine (CallsIn.inRound l HTk.out).mono ?_; rintro e W4 ⟨tv, rfl, ht4, hb4⟩)
        have I4 := hidK (HI.out.on hb4)
        have F4 := hidK (HF.out.trans (Fz.on hb4))
        have HIC := hidK (HCT.out tv W4 ht4.row)
        rw [hpl] at HIC
        clear hpl
        have T4 := hidK ht4
        obtain ⟨ta, tc, htv⟩ := ht4.sl
        obtain ⟨tn, htn⟩ : ∃ tn, tn = (tkL x).length := ⟨_, rfl⟩
        have HTN := hidK htn
        rw [← htn] at htv
        have htl : tn ≤ 33554432 := by rw [htn]; have h1 := tkL_len x; have h2 := HXL.out; omega
        have hcap : tn ≤ tc := by obtain ⟨ao, c, q, z1, _⟩ := ht4.row; rw [htv] at q; injection q with _ _ q; omega
        subst htv
        clear ht4 hb4 htn HTk HI HF
        gi_upto_region 11 with first | (refine ⟨trivial, ?_⟩; gi_at_call 39; refine (CallsIn.inRound l HIC.out).mono ?_; rintro e w9 ⟨rfl, h9⟩; rw [h9]; clear h9) | (refine wpListIn_store_kz rfl rfl _ _ _ rfl (S + 1 + 1) 0 (.bool true) rfl rfl _ _ #[.bool true] I4.out.con info4 rfl rfl rfl ?_; intro W5 R5 q5)
        have I5 := hidK (I4.out.setC hSw q5 R5)
        have F5 := hidK (F4.out.trans (Fz.kp (T := fun k => k = S + 1 + 1) (Kp.kq q5 rfl) (fun k e => .inr (.inr (.inl e)))))
        have c5 := cell_rowK R5 0 _ rfl
        have T5 : Hid (RowT W5 (.slice ta tn tc) (tkL x)) := ((T4.out.f.keep fun g hg => q5.block g (by have := own_lo T4.out g hg; omega) (T4.out.f.lt g hg)).t).row
        clear R5 q5 I4 F4 T4 HIC
        obtain ⟨g, cap, cur, hv, hg, hcu, hcp, hcm, hcs⟩ := I5.out.open
        have cl := cell_rowK I5.out.lst 0 _ rfl
        have cu := cell_rowK hg (Q.length * 2 + 1) _ hcu
        subst hv
        have HG := hidK hg
        unfold maxLen at hcm

        obtain ⟨m, hm⟩ : ∃ m, tn = m + 1 := ⟨tn - 1, by have := HTN.out; have := plus_pos HPL.out; omega⟩
        subst hm
        have hsl := sliceHead ta m tc hcap
        have TM : Hid (RowT W5 (.slice ta m tc) (cutP (tkL x))) := by
          show RowT _ _ _
          have e : cutP (tkL x) = (tkL x).take m := by unfold cutP; rw [if_pos HPL.out, List.dropLast_eq_take, ← HTN.out]; rfl
          rw [e]
          exact rowT_take19 HTN.out T5.out
        have mw : IntKind.i64.wrap ((m : Int) + 1 - 1) = (m : Int) := by rw [IntKind.wrap_i64]; omega
        have mw2 : IntKind.i64.wrap (m : Int) = (m : Int) := by rw [IntKind.wrap_i64]; omega

        have hqm : Q.length ≤ 9223372036854775806 := by omega
        have lw : IntKind.i64.wrap ((Q.length : Int) + 1 - 1) = (Q.length : Int) := by rw [IntKind.wrap_i64]; omega
        have lw2 : IntKind.i64.wrap (Q.length : Int) = (Q.length : Int) := by rw [IntKind.wrap_i64]; omega
        have l0 : (0 : Int) ≤ (Q.length : Int) := by omega
        have l1 : (Q.length : Int) < (Q.length : Int) + 1 := by omega
        obtain ⟨ql, hql⟩ : ∃ ql, ql = Q.length := ⟨_, rfl⟩
        have HQL := hidK hql
        have HOT : Hid (OwnF (fun b => S + 4 ≤ b) txL 1 9 W5 u t) := (I5.out.own.toks ((n, t), u) (by simp)).f
        have HBD : Hid ((t.length + (cutP (tkL x)).length) * (16 + 1) ≤ 140737488355328) := by show _ ≤ _; have h1 := HTL.out; have h2 := tkL_len x; have h3 := cutP_len (tkL x); have h4 := HXL.out; omega
        have HUF : Hid (∀ b, W5.heap.size ≤ b → S + 4 ≤ b) := fun b hb => Nat.le_trans I5.out.size hb
        obtain ⟨ua, un, uc, hus⟩ : ∃ ua un uc, u = .slice ua un uc := by obtain ⟨a, b, q⟩ := (I5.out.own.toks ((n, t), u) (by simp)).sl; exact ⟨a, _, b, q⟩
        subst hus
        have HCS := hidK hcs
        have HCP := hidK hcp
        rw [← hql] at cl
        rw [← hql] at cu
        rw [← hql] at lw
        rw [← hql] at lw2
        rw [← hql] at l0
        rw [← hql] at l1
        clear hg hcu hcs hcp hcm hcap T5 hql
        gi_upto_region 14 with fail
        gi_wp2_with first
          | (refine wpGIn_all (F := fun b => S + 4 ≤ b) elT rfl _ _ rfl (.slice ua un uc) (.slice ta m tc) t (cutP (tkL x)) rfl rfl HOT.out TM.out (fun m _ => txL_one m) HBD.out HUF.out ?_; intro u6 w6 o6 k6 n6; obtain ⟨u6a, u6c, hu6, _⟩ := o6.form; have hg6 : w6.heap[g]? = some (.cells cur 60 (0, 0)) := (k6.block g (Array.getElem?_eq_some_iff.1 HG.out).1 (fun e => ne_ty HOT.out HG.out (by decide) e)).trans HG.out; obtain ⟨u6n, hu6n⟩ : ∃ k, k = (t ++ cutP (tkL x)).length := ⟨_, rfl⟩; rw [← hu6n] at hu6; subst hu6; clear hu6n)
          | (refine wpListIn_store_kz rfl rfl _ _ _ rfl g (ql * 2 + 1) (.slice u6a u6n u6c) rfl rfl _ _ _ hg6 info26 (by have h1 := HCS.out; have h2 := HCP.out; have h3 := HQL.out; exact Nat.ble_eq_true_of_le (by show ql * 2 + 1 + 1 ≤ cur.size; omega)) rfl rfl ?_; intro W7 R7 q7)
        rw [HQL.out] at R7
        obtain ⟨I7, F7⟩ := ClI.last hSw I5.out HG.out o6 k6 n6 q7 R7
        have FF := F5.out.trans F7
        have RR := ClR.step (by rw [HPL.out]; exact I7) _ _ HST.out HGG.out HBB.out HLL.out
        exact ⟨by rw [HZ.out]; exact FF.from, FF.box, RR⟩
    · obtain ⟨Q, p, hP⟩ : ∃ Q p, P = Q ++ [p] := ⟨P.dropLast, P.getLast (hne rfl), (List.dropLast_concat_getLast (hne rfl)).symm⟩
      obtain ⟨⟨n, t⟩, u⟩ := p
      have HI : Hid (ClI S w (Q ++ [((n, t), u)]) v true (pre.length + 1) W1) := by rw [← hP]; exact I1.out
      have HGG : Hid ((if true = true then P.map (·.1) else P.map (·.1) ++ [(pre.length + 1, [])]) = Q.map (·.1) ++ [(n, t)]) := by rw [hP]; show _ = _; simp
      have HTL : Hid (t.length ≤ 33554432) := by show _ ≤ _; have h1 := HBB.out (n, t) (by rw [hP]; simp); have h2 := HTP.out; simp only at h1; omega
      have HNE := hidK hne
      clear hne
      gi_upto_region 9 with fail
      obtain ⟨W3, hW3⟩ : ∃ W3, W3 = W1 := ⟨_, rfl⟩
      rw [← hW3] at HI F1
      have HF := F1
      rw [← hW3]
      clear HNE hP I1 F1 hW3 HTP cc
      cases hpl : isPlus (tkL x)
      · have HPL := hidK hpl
        have HTk := hidK (HTK.out W3)
        have hs3 := HI.out.size
        gi_upto_region 10 with first | (refine ⟨trivial, ?_⟩; gi_at_call 38; refine (CallsIn.inRound l (HTR.out _)).mono ?_; rintro e w9 ⟨rfl, h9⟩; rw [h9]; clear h9) | (refine ⟨trivial, ?_⟩; gi_at_call 37; refine (CallsIn.inRound l HTk.out).mono ?_; rintro e W4 ⟨tv, rfl, ht4, hb4⟩)
        have I4 := hidK (HI.out.on hb4)
        have F4 := hidK (HF.out.trans (Fz.on hb4))
        have HIC := hidK (HCT.out tv W4 ht4.row)
        rw [hpl] at HIC
        clear hpl
        have T4 := hidK ht4
        obtain ⟨ta, tc, htv⟩ := ht4.sl
        obtain ⟨tn, htn⟩ : ∃ tn, tn = (tkL x).length := ⟨_, rfl⟩
        have HTN := hidK htn
        rw [← htn] at htv
        have htl : tn ≤ 33554432 := by rw [htn]; have h1 := tkL_len x; have h2 := HXL.out; omega
        have hcap : tn ≤ tc := by obtain ⟨ao, c, q, z1, _⟩ := ht4.row; rw [htv] at q; injection q with _ _ q; omega
        subst htv
        clear ht4 hb4 htn HTk HI HF
        gi_upto_region 11 with first | (refine ⟨trivial, ?_⟩; gi_at_call 39; refine (CallsIn.inRound l HIC.out).mono ?_; rintro e w9 ⟨rfl, h9⟩; rw [h9]; clear h9) | (refine wpListIn_store_kz rfl rfl _ _ _ rfl (S + 1 + 1) 0 (.bool false) rfl rfl _ _ #[.bool false] I4.out.con info4 rfl rfl rfl ?_; intro W5 R5 q5)
        have I5 := hidK (I4.out.setC hSw q5 R5)
        have F5 := hidK (F4.out.trans (Fz.kp (T := fun k => k = S + 1 + 1) (Kp.kq q5 rfl) (fun k e => .inr (.inr (.inl e)))))
        have c5 := cell_rowK R5 0 _ rfl
        have T5 : Hid (RowT W5 (.slice ta tn tc) (tkL x)) := ((T4.out.f.keep fun g hg => q5.block g (by have := own_lo T4.out g hg; omega) (T4.out.f.lt g hg)).t).row
        clear R5 q5 I4 F4 T4 HIC
        obtain ⟨g, cap, cur, hv, hg, hcu, hcp, hcm, hcs⟩ := I5.out.open
        have cl := cell_rowK I5.out.lst 0 _ rfl
        have cu := cell_rowK hg (Q.length * 2 + 1) _ hcu
        subst hv
        have HG := hidK hg
        unfold maxLen at hcm

        have TM : Hid (RowT W5 (.slice ta tn tc) (cutP (tkL x))) := by
          show RowT _ _ _
          have e : cutP (tkL x) = tkL x := by unfold cutP; rw [if_neg (by rw [HPL.out]; simp)]
          rw [e]; exact T5.out

        have hqm : Q.length ≤ 9223372036854775806 := by omega
        have lw : IntKind.i64.wrap ((Q.length : Int) + 1 - 1) = (Q.length : Int) := by rw [IntKind.wrap_i64]; omega
        have lw2 : IntKind.i64.wrap (Q.length : Int) = (Q.length : Int) := by rw [IntKind.wrap_i64]; omega
        have l0 : (0 : Int) ≤ (Q.length : Int) := by omega
        have l1 : (Q.length : Int) < (Q.length : Int) + 1 := by omega
        obtain ⟨ql, hql⟩ : ∃ ql, ql = Q.length := ⟨_, rfl⟩
        have HQL := hidK hql
        have HOT : Hid (OwnF (fun b => S + 4 ≤ b) txL 1 9 W5 u t) := (I5.out.own.toks ((n, t), u) (by simp)).f
        have HBD : Hid ((t.length + (cutP (tkL x)).length) * (16 + 1) ≤ 140737488355328) := by show _ ≤ _; have h1 := HTL.out; have h2 := tkL_len x; have h3 := cutP_len (tkL x); have h4 := HXL.out; omega
        have HUF : Hid (∀ b, W5.heap.size ≤ b → S + 4 ≤ b) := fun b hb => Nat.le_trans I5.out.size hb
        obtain ⟨ua, un, uc, hus⟩ : ∃ ua un uc, u = .slice ua un uc := by obtain ⟨a, b, q⟩ := (I5.out.own.toks ((n, t), u) (by simp)).sl; exact ⟨a, _, b, q⟩
        subst hus
        have HCS := hidK hcs
        have HCP := hidK hcp
        rw [← hql] at cl
        rw [← hql] at cu
        rw [← hql] at lw
        rw [← hql] at lw2
        rw [← hql] at l0
        rw [← hql] at l1
        clear hg hcu hcs hcp hcm hcap T5 hql
        gi_upto_region 14 with fail
        gi_wp2_with first
          | (refine wpGIn_all (F := fun b => S + 4 ≤ b) elT rfl _ _ rfl (.slice ua un uc) (.slice ta tn tc) t (cutP (tkL x)) rfl rfl HOT.out TM.out (fun m _ => txL_one m) HBD.out HUF.out ?_; intro u6 w6 o6 k6 n6; obtain ⟨u6a, u6c, hu6, _⟩ := o6.form; have hg6 : w6.heap[g]? = some (.cells cur 60 (0, 0)) := (k6.block g (Array.getElem?_eq_some_iff.1 HG.out).1 (fun e => ne_ty HOT.out HG.out (by decide) e)).trans HG.out; obtain ⟨u6n, hu6n⟩ : ∃ k, k = (t ++ cutP (tkL x)).length := ⟨_, rfl⟩; rw [← hu6n] at hu6; subst hu6; clear hu6n)
          | (refine wpListIn_store_kz rfl rfl _ _ _ rfl g (ql * 2 + 1) (.slice u6a u6n u6c) rfl rfl _ _ _ hg6 info26 (by have h1 := HCS.out; have h2 := HCP.out; have h3 := HQL.out; exact Nat.ble_eq_true_of_le (by show ql * 2 + 1 + 1 ≤ cur.size; omega)) rfl rfl ?_; intro W7 R7 q7)
        rw [HQL.out] at R7
        obtain ⟨I7, F7⟩ := ClI.last hSw I5.out HG.out o6 k6 n6 q7 R7
        have FF := F5.out.trans F7
        have RR := ClR.step (by rw [HPL.out]; exact I7) _ _ HST.out HGG.out HBB.out HLL.out
        exact ⟨by rw [HZ.out]; exact FF.from, FF.box, RR⟩
      · have HPL := hidK hpl
        have HTk := hidK (HTK.out W3)
        have hs3 := HI.out.size
        gi_upto_region 10 with first | (refine ⟨trivial, ?_⟩; gi_at_call 38; refine (CallsIn.inRound l (HTR.out _)).mono ?_; rintro e w9 ⟨rfl, h9⟩; rw [h9]; clear h9) | (refine ⟨trivial, ?_⟩; gi_at_call 37; refine (CallsIn.inRound l HTk.out).mono ?_; rintro e W4 ⟨tv, rfl, ht4, hb4⟩)
        have I4 := hidK (HI.out.on hb4)
        have F4 := hidK (HF.out.trans (Fz.on hb4))
        have HIC := hidK (HCT.out tv W4 ht4.row)
        rw [hpl] at HIC
        clear hpl
        have T4 := hidK ht4
        obtain ⟨ta, tc, htv⟩ := ht4.sl
        obtain ⟨tn, htn⟩ : ∃ tn, tn = (tkL x).length := ⟨_, rfl⟩
        have HTN := hidK htn
        rw [← htn] at htv
        have htl : tn ≤ 33554432 := by rw [htn]; have h1 := tkL_len x; have h2 := HXL.out; omega
        have hcap : tn ≤ tc := by obtain ⟨ao, c, q, z1, _⟩ := ht4.row; rw [htv] at q; injection q with _ _ q; omega
        subst htv
        clear ht4 hb4 htn HTk HI HF
        gi_upto_region 11 with first | (refine ⟨trivial, ?_⟩; gi_at_call 39; refine (CallsIn.inRound l HIC.out).mono ?_; rintro e w9 ⟨rfl, h9⟩; rw [h9]; clear h9) | (refine wpListIn_store_kz rfl rfl _ _ _ rfl (S + 1 + 1) 0 (.bool true) rfl rfl _ _ #[.bool true] I4.out.con info4 rfl rfl rfl ?_; intro W5 R5 q5)
        have I5 := hidK (I4.out.setC hSw q5 R5)
        have F5 := hidK (F4.out.trans (Fz.kp (T := fun k => k = S + 1 + 1) (Kp.kq q5 rfl) (fun k e => .inr (.inr (.inl e)))))
        have c5 := cell_rowK R5 0 _ rfl
        have T5 : Hid (RowT W5 (.slice ta tn tc) (tkL x)) := ((T4.out.f.keep fun g hg => q5.block g (by have := own_lo T4.out g hg; omega) (T4.out.f.lt g hg)).t).row
        clear R5 q5 I4 F4 T4 HIC
        obtain ⟨g, cap, cur, hv, hg, hcu, hcp, hcm, hcs⟩ := I5.out.open
        have cl := cell_rowK I5.out.lst 0 _ rfl
        have cu := cell_rowK hg (Q.length * 2 + 1) _ hcu
        subst hv
        have HG := hidK hg
        unfold maxLen at hcm

        obtain ⟨m, hm⟩ : ∃ m, tn = m + 1 := ⟨tn - 1, by have := HTN.out; have := plus_pos HPL.out; omega⟩
        subst hm
        have hsl := sliceHead ta m tc hcap
        have TM : Hid (RowT W5 (.slice ta m tc) (cutP (tkL x))) := by
          show RowT _ _ _
          have e : cutP (tkL x) = (tkL x).take m := by unfold cutP; rw [if_pos HPL.out, List.dropLast_eq_take, ← HTN.out]; rfl
          rw [e]
          exact rowT_take19 HTN.out T5.out
        have mw : IntKind.i64.wrap ((m : Int) + 1 - 1) = (m : Int) := by rw [IntKind.wrap_i64]; omega
        have mw2 : IntKind.i64.wrap (m : Int) = (m : Int) := by rw [IntKind.wrap_i64]; omega

        have hqm : Q.length ≤ 9223372036854775806 := by omega
        have lw : IntKind.i64.wrap ((Q.length : Int) + 1 - 1) = (Q.length : Int) := by rw [IntKind.wrap_i64]; omega
        have lw2 : IntKind.i64.wrap (Q.length : Int) = (Q.length : Int) := by rw [IntKind.wrap_i64]; omega
        have l0 : (0 : Int) ≤ (Q.length : Int) := by omega
        have l1 : (Q.length : Int) < (Q.length : Int) + 1 := by omega
        obtain ⟨ql, hql⟩ : ∃ ql, ql = Q.length := ⟨_, rfl⟩
        have HQL := hidK hql
        have HOT : Hid (OwnF (fun b => S + 4 ≤ b) txL 1 9 W5 u t) := (I5.out.own.toks ((n, t), u) (by simp)).f
        have HBD : Hid ((t.length + (cutP (tkL x)).length) * (16 + 1) ≤ 140737488355328) := by show _ ≤ _; have h1 := HTL.out; have h2 := tkL_len x; have h3 := cutP_len (tkL x); have h4 := HXL.out; omega
        have HUF : Hid (∀ b, W5.heap.size ≤ b → S + 4 ≤ b) := fun b hb => Nat.le_trans I5.out.size hb
        obtain ⟨ua, un, uc, hus⟩ : ∃ ua un uc, u = .slice ua un uc := by obtain ⟨a, b, q⟩ := (I5.out.own.toks ((n, t), u) (by simp)).sl; exact ⟨a, _, b, q⟩
        subst hus
        have HCS := hidK hcs
        have HCP := hidK hcp
        rw [← hql] at cl
        rw [← hql] at cu
        rw [← hql] at lw
        rw [← hql] at lw2
        rw [← hql] at l0
        rw [← hql] at l1
        clear hg hcu hcs hcp hcm hcap T5 hql
        gi_upto_region 14 with fail
        gi_wp2_with first
          | (refine wpGIn_all (F := fun b => S + 4 ≤ b) elT rfl _ _ rfl (.slice ua un uc) (.slice ta m tc) t (cutP (tkL x)) rfl rfl HOT.out TM.out (fun m _ => txL_one m) HBD.out HUF.out ?_; intro u6 w6 o6 k6 n6; obtain ⟨u6a, u6c, hu6, _⟩ := o6.form; have hg6 : w6.heap[g]? = some (.cells cur 60 (0, 0)) := (k6.block g (Array.getElem?_eq_some_iff.1 HG.out).1 (fun e => ne_ty HOT.out HG.out (by decide) e)).trans HG.out; obtain ⟨u6n, hu6n⟩ : ∃ k, k = (t ++ cutP (tkL x)).length := ⟨_, rfl⟩; rw [← hu6n] at hu6; subst hu6; clear hu6n)
          | (refine wpListIn_store_kz rfl rfl _ _ _ rfl g (ql * 2 + 1) (.slice u6a u6n u6c) rfl rfl _ _ _ hg6 info26 (by have h1 := HCS.out; have h2 := HCP.out; have h3 := HQL.out; exact Nat.ble_eq_true_of_le (by show ql * 2 + 1 + 1 ≤ cur.size; omega)) rfl rfl ?_; intro W7 R7 q7)
        rw [HQL.out] at R7
        obtain ⟨I7, F7⟩ := ClI.last hSw I5.out HG.out o6 k6 n6 q7 R7
        have FF := F5.out.trans F7
        have RR := ClR.step (by rw [HPL.out]; exact I7) _ _ HST.out HGG.out HBB.out HLL.out
        exact ⟨by rw [HZ.out]; exact FF.from, FF.box, RR⟩
  case done =>
    rintro D xs W hD hS' ⟨P, v, ct, hI, hst, _, _, _⟩ hK
    have hg : P.map (·.1) = groups ((linesL (byL s)).map tokL) := by
      unfold groups
      rw [lines_raw, List.map_map, ← hS']
      have : (xs.map (tokL ∘ trimN)).foldl stepC ([], false, 0) = stF xs := rfl
      rw [this, hst]
    obtain ⟨va, vc, hv, _⟩ := hI.own.row.form
    have cl := cell_rowK hI.lst 0 _ rfl
    obtain ⟨pl, hpl⟩ : ∃ pl, pl = P.length := ⟨_, rfl⟩
    rw [← hpl] at hv
    subst hv
    have hDn : ∀ k, k ≠ D → (W.putObj D (.deferred none)).heap[k]? = W.heap[k]? := fun k hk => World.putObj_heap_other hk
    have hW2 : Below S w (W.putObj D (.deferred none)) := hI.below.trans ((Below.refl S W).grown (grownBy_putObj' W D _) (by have := hI.size; omega) (fun k e => by cases e; have := HZ.out; omega))
    have hO : OwnL (S + 4) (W.putObj D (.deferred none)) (.slice va pl vc) P := hI.own.keep fun g cs t fr _ hg => hDn g (fun e => by rw [e, hK] at hg; cases hg)
    have HO := hidK hO
    have HW2 := hidK hW2
    have HGR := hidK hg
    clear hst hI hg hpl hDn hW2 hO hS' hTn hseq i0 zb HL
    gi_wp2
    refine ⟨by simp, .inl ⟨_, _, rfl, run_takeDeferred hK, ?_⟩⟩
    refine ⟨_, results_tmp rfl _ _ _, _, P, rfl, ?_, HGR.out, ?_⟩
    · have h := HO.out
      rw [← HS.out]
      exact ⟨h.row.weak (fun k (hk : S + 4 ≤ k) => by show S ≤ k; omega), fun p hp => (h.toks p hp).le (by omega), h.apart⟩
    · rw [← HS.out]; exact HW2.out
  case stop =>
    rintro D c pre W hD hS' h hK
    exact h.elim
end Go.Proofs.YtdamhdceajmdfaaDoor
