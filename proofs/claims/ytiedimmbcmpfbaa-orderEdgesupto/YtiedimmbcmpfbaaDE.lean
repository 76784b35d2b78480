
-- definersOf.
import Derived.Test.YtiedimmbcmpfbaaND
namespace Go.Proofs.Ytiedimmbcmpfbaa
open Go.ChangeShapes Go.WideShapes Go.ChangeAt Go.RowKit Go.MapKept
set_option linter.unusedVariables false
set_option maxRecDepth 100000
theorem mem_addD {α : Type} [DecidableEq α] {L : List α} {x y : α} : y ∈ addD L x ↔ y ∈ L ∨ y = x := by
  unfold addD
  split
  · next h => exact ⟨.inl, fun h' => h'.elim id (fun e => e ▸ isIn_iff.1 h)⟩
  · simp
theorem mem_foldD {α : Type} [DecidableEq α] (M : List α) : ∀ {L : List α} {y : α}, y ∈ M.foldl addD L ↔ y ∈ L ∨ y ∈ M := by
  induction M with
  | nil => intro L y; simp
  | cons x r ih => intro L y; rw [List.foldl_cons, ih, mem_addD, List.mem_cons, or_assoc]
theorem mem_dedD {α : Type} [DecidableEq α] {L : List α} {y : α} : y ∈ dedD L ↔ y ∈ L := by unfold dedD; rw [mem_foldD]; simp
theorem nodup_addD {α : Type} [DecidableEq α] {L : List α} (x : α) (h : L.Nodup) : (addD L x).Nodup := by
  unfold addD
  split
  · exact h
  · next hx =>
    rw [List.nodup_append]
    refine ⟨h, by simp, fun a ha b hb e => ?_⟩
    simp at hb
    subst hb
    subst e
    exact hx (isIn_iff.2 ha)
theorem nodup_foldD {α : Type} [DecidableEq α] (M : List α) : ∀ {L : List α}, L.Nodup → (M.foldl addD L).Nodup := by
  induction M with
  | nil => intro L h; exact h
  | cons x r ih => intro L h; rw [List.foldl_cons]; exact ih (nodup_addD x h)
theorem nodup_dedD {α : Type} [DecidableEq α] (L : List α) : (dedD L).Nodup := nodup_foldD L (by simp)
theorem not_take {α : Type} {L : List α} (h : L.Nodup) {j : Nat} {x : α} (hx : L[j]? = some x) : x ∉ L.take j := by
  intro hm
  obtain ⟨i, hi, he⟩ := List.getElem_of_mem hm
  have hj := (List.getElem?_eq_some_iff.1 hx)
  obtain ⟨hj1, hj2⟩ := hj
  rw [List.length_take] at hi
  rw [List.getElem_take] at he
  have := (List.nodup_iff_pairwise_ne.1 h)
  rw [List.pairwise_iff_getElem] at this
  exact this i j (by omega) hj1 (by omega) (by rw [he, hj2])
/-- the numbers of the first k nodes that define a name -/
def defK (Ns : List No) (k : Nat) (x : ByteArray) : List Int := ((List.range k).filter (fun i => match Ns[i]? with | some N => isIn N.df x | none => false)).map Int.ofNat
theorem defK_succ {Ns : List No} {k : Nat} {N : No} (h : Ns[k]? = some N) (x : ByteArray) : defK Ns (k + 1) x = if isIn N.df x then defK Ns k x ++ [(k : Int)] else defK Ns k x := by
  unfold defK
  rw [List.range_succ, List.filter_append, List.map_append]
  cases hi : isIn N.df x <;> simp [h, hi]
theorem defK_len (Ns : List No) (k : Nat) (x : ByteArray) : (defK Ns k x).length ≤ k := by
  unfold defK
  rw [List.length_map]
  exact Nat.le_trans (List.length_filter_le _ _) (by simp)
/-- what is known when the first j of a node's names are through -/
def defJ (Ns : List No) (k : Nat) (ded : List ByteArray) (j : Nat) (x : ByteArray) : List Int := if isIn (ded.take j) x then defK Ns k x ++ [(k : Int)] else defK Ns k x
theorem defJ_step {Ns : List No} {k : Nat} {ded : List ByteArray} {j : Nat} {y : ByteArray} (hn : ded.Nodup) (h : ded[j]? = some y) (x : ByteArray) : (if x = y then defJ Ns k ded j y ++ [(k : Int)] else defJ Ns k ded j x) = defJ Ns k ded (j + 1) x := by
  unfold defJ
  rw [takeSucc h]
  by_cases hx : x = y
  · subst hx
    rw [if_pos rfl, if_neg (fun e => not_take hn h (isIn_iff.1 e)), if_pos (isIn_iff.2 (by simp))]
  · rw [if_neg hx, isIn_congr (L := ded.take j ++ [y]) (M := ded.take j) (x := x) (by simp [hx])]
theorem defJ_end {Ns : List No} {k : Nat} {N : No} (h : Ns[k]? = some N) (x : ByteArray) : defJ Ns k (dedD N.df) (dedD N.df).length x = defK Ns (k + 1) x := by
  unfold defJ
  rw [defK_succ h, List.take_length, isIn_congr (M := N.df) mem_dedD]
theorem defJ_len (Ns : List No) (k : Nat) (ded : List ByteArray) (j : Nat) (x : ByteArray) : (defJ Ns k ded j x).length ≤ k + 1 := by
  unfold defJ
  have := defK_len Ns k x
  split
  · rw [List.length_append]; simp; omega
  · omega
theorem OwnF.rowN {α : Type} {c : α → List Value} {z e sl bytes : Nat} {F G : Nat → Prop} {w : World} {v : Value} {L : List α} (E : El c z e sl bytes) (h : OwnF F c z e w v L) (hn : ∀ b, F b → b < w.heap.size → ¬ G b) : RowN G c w v L := by
  obtain ⟨ao, cap, e1, h1, h2, h3, h4⟩ := OwnF.row E h
  refine ⟨ao, cap, e1, h1, h2, h3, fun hp => ?_⟩
  obtain ⟨b, off, e2, hc⟩ := h4 hp
  have hb : v.ownBlock = some b := by rw [e1, e2]; rfl
  exact ⟨b, off, e2, hn b (h.2 b hb) (h.lt b hb), hc⟩
theorem df_new (w : World) (Ns : List No) : DfAt (fun b => w.heap.size ≤ b) (w.alloc (.map #[] 0)) w.heap.size (defK Ns 0) :=
  ⟨fun _ => none, (MpAt.made IsSt Value.string w).congr (fun x => rfl), by simp, fun x _ => rfl, by simp, Nat.le_refl _⟩
set_option maxHeartbeats 16000000 in
theorem definers_c (v : Value) (vs : List Nv) (Ns : List No) (w : World) (h : NodesAt (fun b => w.heap.size ≤ b) w v vs Ns) (hn : Ns.length ≤ 4398046511104) (hd : ∀ N ∈ Ns, N.df.length ≤ 4398046511104) :
    Calls Try.prog 10 #[v] w fun e w' => ∃ b, e = .returned (.map (some b)) ∧ DfAt (fun b => w.heap.size ≤ b) w' b (defK Ns Ns.length) ∧ Below w.heap.size w w' := by
  obtain ⟨a1, c1, q1, _, _⟩ := h.row.row.form
  obtain ⟨n, hnn⟩ : ∃ n, n = vs.length := ⟨_, rfl⟩
  have HN := hidK hnn
  have HNN : Hid (n = Ns.length) := hnn.trans h.len
  have HV := hidK h
  have HD := hidK hd
  rw [← hnn] at q1
  rw [← HNN.out] at hn ⊢
  subst q1
  have HM := hidK (df_new w Ns)
  clear h hnn hd
  go_enter Try.func10, Try.ntmps10
  go_wp2_with (refine wp_make0 _ rfl 33 rfl ?_)
  go_loopw [11] (fun i wx => ∃ (k : Nat), i = .int .i64 k ∧ k ≤ n ∧ DfAt (fun b => w.heap.size ≤ b) wx w.heap.size (defK Ns k) ∧ Below w.heap.size w wx) (fun i _ => n - (intOf i).toNat)
  case atStart => exact ⟨0, rfl, Nat.zero_le _, HM.out, (Below.refl _ _).alloc (Nat.le_refl _) _⟩
  case round =>
    obtain ⟨k, rfl, hkn, ho, hB⟩ := hrel
    have HO := hidK ho
    have HB0 := hidK hB
    by_cases hk : k < n
    · have kI : (k : Int) < (n : Int) := by omega
      have k0 : (0 : Int) ≤ (k : Int) := by omega
      have kw : IntKind.i64.wrap ((k : Int) + 1) = (k : Int) + 1 := by rw [IntKind.wrap_i64]; omega
      obtain ⟨x, hx⟩ : ∃ x, vs[k]? = some x := ⟨_, List.getElem?_eq_getElem (by have := HN.out; omega)⟩
      obtain ⟨N, hN⟩ : ∃ x, Ns[k]? = some x := ⟨_, List.getElem?_eq_getElem (by have := HNN.out; omega)⟩
      have hV := HV.out.below hB
      obtain ⟨b1, o1, p1, e1, d0, d1, d2⟩ := hV.row.row.no hx
      obtain ⟨hnm, hdf, hnd⟩ := hV.at_ k x N hx hN
      obtain ⟨nm, ⟨da, dl, dc⟩, ⟨na, nl, nc⟩⟩ := x
      simp only [slV] at d0 d1 d2 hdf hnd hnm
      have HX := hidK hN
      injection e1 with e1 e1b e1c
      subst e1
      obtain ⟨X, hX⟩ : ∃ X, X = Obj.cells #[.string nm, .slice da dl dc, .slice na nl nc] 29 := ⟨_, rfl⟩
      have hbX : Below wr.heap.size wr (wr.alloc X) := (Below.refl _ _).alloc (Nat.le_refl _) X
      have HA := hidK (distinctT_c (.slice da dl dc) N.df (wr.alloc X) (hdf.row.on hbX) (HD.out N (List.mem_of_getElem? hN)))
      have HBX := hidK hbX
      clear hx hN e1b e1c HV hV hdf hnd hbX ho hB hnm
      subst hX
      go_upto_region 5 with fail
      go_wp2_with (go_at_call 13; refine HA.out.mono ?_; rintro e w2 ⟨au, lu, cu, rfl, hu, hb2⟩; have HU := hidK hu; have HB2 := hidK hb2; clear hu hb2)
      have hO2 : DfAt (fun b => w.heap.size ≤ b) w2 w.heap.size (defK Ns k) := (HO.out.on HBX.out).on HB2.out
      have hU := HU.out
      obtain ⟨m, hm⟩ : ∃ m, m = (dedD N.df).length := ⟨_, rfl⟩
      obtain ⟨_, _, eu, _⟩ := hU.form
      injection eu with eu1 eu2 eu3
      rw [← hm] at eu2
      subst eu2
      clear eu1 eu3
      have HM := hidK hm
      have hszX : wr.heap.size < w2.heap.size := by have h1 := HB2.out.size; simp at h1; omega
      obtain ⟨G, hG⟩ : ∃ G : Nat → Prop, G = fun q => w.heap.size ≤ q ∧ (q < wr.heap.size ∨ w2.heap.size ≤ q) := ⟨_, rfl⟩
      have hO3 : DfAt G w2 w.heap.size (defJ Ns k (dedD N.df) 0) := by
        have : DfAt G wr w.heap.size (defK Ns k) := HO.out.into (fun q h1 h2 => by rw [hG]; exact ⟨h2, .inl h1⟩)
        exact ((this.on HBX.out).on HB2.out).congr (fun x => by unfold defJ; simp [isIn])
      have HO3 := hidK hO3
      have HU2 : Hid (RowN G txL w2 (.slice au lu cu) (dedD N.df)) := OwnF.rowN elT hU (fun b h1 h2 h3 => by rw [hG] at h3; simp at h1; omega)
      have HGL : Hid (∀ q, G q → w.heap.size ≤ q) := fun q h => by rw [hG] at h; exact h.1
      have HGN : Hid (∀ q, w2.heap.size ≤ q → G q) := fun q h => by rw [hG]; exact ⟨by have := HB0.out.size; omega, .inr h⟩
      have HB3 : Hid (Below w.heap.size w w2) := (HB0.out.trans (HBX.out.mono HB0.out.size)).trans (HB2.out.mono (by have := HB0.out.size; simp; omega))
      have HML : Hid (lu ≤ 4398046511104) := by show _ ≤ _; have h1 := dedD_len N.df; have h2 := HD.out N (List.mem_of_getElem? HX.out); have h3 := HM.out; omega
      have HM2 := hidK hm
      clear hO2 hU hO3 hG hszX HA hm HU
      go_wp2
      go_loopw [20] (fun i wx => ∃ (j : Nat), i = .int .i64 j ∧ j ≤ lu ∧ DfAt G wx w.heap.size (defJ Ns k (dedD N.df) j) ∧ Kp G w2 wx) (fun i _ => lu - (intOf i).toNat)
      case atStart => exact ⟨0, rfl, Nat.zero_le _, HO3.out, Kp.refl _ _⟩
      case round =>
        obtain ⟨j, rfl, hjm, ho, hB⟩ := hrel
        have HO4 := hidK ho
        have HB4 := hidK hB
        by_cases hj : j < lu
        · have jI : (j : Int) < (lu : Int) := by omega
          have j0 : (0 : Int) ≤ (j : Int) := by omega
          have jw : IntKind.i64.wrap ((j : Int) + 1) = (j : Int) + 1 := by have := HML.out; rw [IntKind.wrap_i64]; omega
          obtain ⟨y, hy⟩ : ∃ x, (dedD N.df)[j]? = some x := ⟨_, List.getElem?_eq_getElem (by have := HM.out; omega)⟩
          obtain ⟨b1, o1, p1, e1, d0⟩ := (HU2.out.kp hB).row.tx hy
          have HY := hidK hy
          injection e1 with e1 e1b e1c
          subst e1
          obtain ⟨⟨sa, sl, sc⟩, hrun, hos, hsl⟩ := ho.look y
          simp only at hsl
          have HSQ := hidK hsl
          have HSL : Hid (sl ≤ k + 1) := by show _ ≤ _; rw [hsl]; exact defJ_len _ _ _ _ _
          have HOS := hidK hos
          have HRUN := hidK hrun
          have hG5 : ∀ q, wr.heap.size ≤ q → G q := fun q hq => HGN.out q (Nat.le_trans hB.size hq)
          simp only [slV] at hrun
          clear hy e1b e1c hos hsl ho hB
          go_upto_region 8 with fail
          go_wp2_with (first
            | (at_lookup; refine wp_look _ rfl _ _ 33 false rfl _ _ _ rfl rfl hrun ?_)
            | (refine wpG_one (F := G) elI rfl (.tmp 28) (.tmp 30) rfl (.slice sa sl sc) _ (k : Int) #[.int .i64 k] rfl rfl rfl HOS.out (nmL_one _) (by have := HSL.out; rw [← HSQ.out]; omega) hG5 ?_; intro v4 w4 o4 k4 l4; obtain ⟨a4, p4, e4, _⟩ := o4.form; obtain ⟨m4, hm4⟩ : ∃ m, m = (defJ Ns k (dedD N.df) j y ++ [(k : Int)]).length := ⟨_, rfl⟩; rw [← hm4] at e4; clear hm4; subst e4; obtain ⟨w5, hr5, hd5, hk5⟩ := HO4.out.put (v' := (a4, m4, p4)) HRUN.out k4 o4 l4; simp only [slV] at hr5; have HD5 := hidK hd5; have HK5 := hidK hk5; clear o4 k4 l4 hd5 hk5)
            | (at_mapUpdate; refine wp_store _ rfl _ _ _ 33 rfl _ _ _ rfl rfl rfl w5 hr5 ?_))
          go_roundw
          case rel => exact ⟨j + 1, by go_num, by omega, HD5.out.congr (fun x => defJ_step (nodup_dedD _) HY.out x), HB4.out.trans HK5.out⟩
          case measure => simp [intOf]; omega
        · obtain rfl : j = lu := by omega
          clear HM
          go_wp2
          go_roundw
          case rel => exact ⟨k + 1, by go_num, by omega, (HO4.out.congr (fun x => by rw [HM2.out]; exact defJ_end HX.out x)).into (fun q _ h => HGL.out q h), HB3.out.trans (HB4.out.below HGL.out HB3.out.size)⟩
          case measure => simp [intOf]; omega
    · obtain rfl : k = n := by omega
      clear HV HM
      go_wp2
      go_ret
      exact ⟨_, rfl, HO.out, HB0.out⟩
end Go.Proofs.Ytiedimmbcmpfbaa
