-- Remove, Rename, SyncDir.
import Derived.Test.YtodjgbmfmpbkjabV17
import Derived.Test.YtodjgbmfmpbkjabV16
namespace Go.Proofs.Ytodjgbmfmpbkjab
open Go.RowKit
set_option linter.unusedVariables false
theorem Open.below {F : Nat → Prop} {p : Nat} {st : St} {w W : World} {d0 : Dr} {cs : List Chg} {T K : List (Nat × Nat)} {vd vs vt vk vp : Value} (O : Open F p st w d0 cs T K vd vs vt vk vp) (hb : Below w.heap.size w W) : Open F p st W d0 cs T K vd vs vt vk vp := by
  refine ⟨O.raw.keep (fun k _ hk => hb.block k hk) fun _ h => h, O.inv, (hb.block p (blk_lt O.blk)).trans O.blk, O.maps.keep (fun v hv b' hb'' => hb.block b' (O.maps.inF hv hb'').2) fun _ h => h, O.bod.keep (fun e he k hk' => hb.block k ?_) fun _ h => h, own_keep O.row fun k hk' => hb.block k ?_, O.fp⟩
  · rcases hk' with rfl | hk'
    · exact (O.bod.lt he).1
    · exact (O.bod.lt he).2 k hk'
  · obtain ⟨cur, hh⟩ := own_typed O.row hk'; exact blk_lt hh
/-- A volume with a name has its maps. -/
theorem Open.rn {F : Nat → Prop} {p : Nat} {st : St} {w : World} {d0 : Dr} {cs : List Chg} {T K : List (Nat × Nat)} {vd vs vt vk vp : Value} (O : Open F p st w d0 cs T K vd vs vt vk vp) (hne : st.now ≠ []) : ∃ bd bf bt bk vp, RN F p st.cap st.bodies.length st.now d0 cs T K st.bodies w bd bf bt bk vp ∧ vd = .map (some bd) := by
  obtain ⟨vd', vs', vt', vk', vp', hp, hF, hm, ho, hoF, hb, hn⟩ := O.raw
  have := hp.symm.trans O.blk
  simp only [Option.some.injEq, Obj.cells.injEq, diskV] at this
  obtain ⟨h1, _, _⟩ := this
  have e2 : vd' = vd := by
    have h3 : some vd' = some vd := congrArg (fun a : Array Value => a[2]?) h1
    exact Option.some.inj h3
  rcases hm with ⟨_, _, _, h, _⟩ | ⟨bd, bf, bt, bk, rfl, rfl, rfl, rfl, f1, f2, f3, f4, n1, n2, n3, n4, n5, n6, m1, m2, m3, m4⟩
  · exact absurd h hne
  · exact ⟨bd, bf, bt, bk, vp', ⟨hp, hF, f1, f2, f3, f4, n1, n2, n3, n4, n5, n6, m1, m2, m3, m4, ho, hoF, hb⟩, e2.symm⟩
/-- From a volume laid open by its maps to what a call has done. -/
theorem pdid_mk {F : Nat → Prop} {p : Nat} {st' : St} {w w1 w2 : World} {d0 : Dr} {cs : List Chg} {T K : List (Nat × Nat)} (hr : Raw (ext F w1 w2) p st'.cap st'.bodies.length st'.now d0 cs T K st'.bodies w2) (hi : Inv st' d0 cs T K) (h1 : Kp F w w1) (h2 : Kp F w1 w2) : PDid PSx F p st' w w2 := by
  refine ⟨⟨d0, cs, T, K, hr.keep (fun _ _ _ => rfl) fun k hk => ?_, hi⟩, h1.trans h2⟩
  have := h1.size
  rcases hk with hk | hk
  · exact .inl hk
  · exact .inr ⟨by omega, by omega⟩
theorem pdid_refl {F : Nat → Prop} {p : Nat} {st : St} {w w' : World} (h : PSx F p st w) (hb : Below w.heap.size w w') : PDid PSx F p st w w' := ⟨psx_mono (psx_below h hb).1 fun k hk => .inl hk, (psx_below h hb).2⟩
theorem Kp.ofBelow2 {F : Nat → Prop} {w w' : World} (h : Below w.heap.size w w') : Kp F w w' := Kp.of_below h
theorem leads_ne_nil {d : Dr} {n : ByteArray} (h : leads d n ≠ 0) : d ≠ [] := fun e => by subst e; exact h rfl
set_option maxHeartbeats 8000000 in
theorem remove_p (F : Nat → Prop) (p : Nat) (st : St) (name : ByteArray) (w : World) (h : PSx F p st w) (hw : Wf st) :
    Calls Try.prog 33 #[.pointer (some ⟨p, 0, none⟩), .string name] w fun e w' => e = .returned (.int .i64 (st.remove name).1) ∧ PDid PSx F p (st.remove name).2 w w' := by
  obtain ⟨d0, cs, T, K, vd, vs, vt, vk, vp, O⟩ := psx_open h
  have HN : Hid (Calls Try.prog 24 #[.string name] w fun e w' => e = .returned (.bool (okName name)) ∧ Below w.heap.size w w') := isName_c name w
  rcases hok : okName name with _ | _
  · have HC : Hid (st.remove name = (32, st)) := by show _ = _; unfold St.remove; rw [if_pos hok]
    rw [hok] at HN
    have HP : Hid (PSx F p st w) := h
    clear h hw hok O
    rw [HC.out]
    go_enter Try.func33, Try.ntmps33
    go_wp2_with (go_at_call 24; refine HN.out.mono ?_; rintro e w1 ⟨rfl, hb1⟩)
    go_ret
    exact ⟨rfl, pdid_refl HP.out hb1⟩
  · rw [hok] at HN
    have HL : Hid (∀ W, Below w.heap.size w W → W.cell? ⟨p, 2, none⟩ = some vd ∧ (Instr.lookup 62 vd (.string name) true).run Try.prog W = .ok (.tuple #[.int .i64 (leads st.now name), .bool (decide (leads st.now name ≠ 0))]) W) := fun W hb => by
      refine ⟨cell_below hb (disk_cells O.blk).2.2.1, ?_⟩
      have := (O.maps.v.1.keep hb).sv_look true (Inv.pos hw) name
      simpa using this
    by_cases hz : leads st.now name = 0
    · have HC : Hid (st.remove name = (30, st)) := by
        show _ = _
        unfold St.remove
        rw [if_neg (by rw [hok]; decide), if_pos hz]
      rw [hz, show decide ((0 : Nat) ≠ 0) = false by decide] at HL
      have HP : Hid (PSx F p st w) := h
      clear h hw hok O hz
      rw [HC.out]
      go_enter Try.func33, Try.ntmps33
      go_wp2_with (first
        | (go_at_call 24; refine HN.out.mono ?_; rintro e w1 ⟨rfl, hb1⟩; obtain ⟨x2, hl⟩ := HL.out _ hb1; have HB1 : Hid (Below w.heap.size w w1) := hb1; clear hb1)
        | (at_lookup; refine wp_look _ rfl _ _ 62 true rfl _ _ _ rfl rfl hl ?_))
      go_ret
      exact ⟨rfl, pdid_refl HP.out HB1.out⟩
    · have HC : Hid (st.remove name = (0, { st with dirs := st.dirs ++ [without st.now name] })) := by
        show _ = _
        unfold St.remove
        rw [if_neg (by rw [hok]; decide), if_neg hz]
      have hdw := O.inv.dw.now hw
      have HG : Hid (∀ W, Below w.heap.size w W → Calls Try.prog 26 #[.pointer (some ⟨p, 0, none⟩), .string name] W fun e w2 => e = .returned (.tuple #[]) ∧ Kp F w w2 ∧ Calls Try.prog 27 #[.pointer (some ⟨p, 0, none⟩), .agg #[.string name, .string ⟨#[]⟩, .int .i64 0]] w2 fun e w3 => e = .returned (.tuple #[]) ∧ PDid PSx F p (st.remove name).2 w w3) := fun W hb => by
        obtain ⟨bd, bf, bt, bk, vp', R, _⟩ := (O.below hb).rn (leads_ne_nil hz)
        refine (giveUp_p name F p _ _ st.now d0 cs T K st.bodies W bd bf bt bk vp' R hdw (Inv.pos hw) O.inv.num O.inv.apart).mono ?_
        rintro e w2 ⟨rfl, ⟨T1, K1, R1, G⟩, hk2⟩
        have hk : Kp F w w2 := (Kp.of_below (F := F) hb).trans hk2
        refine ⟨rfl, hk, ?_⟩
        have hlen : cs.length ≤ 2097152 := by have := hw.long; have := O.inv.cs_len; omega
        refine (note_c ⟨name, ⟨#[]⟩, 0⟩ F p _ _ st.now d0 cs T1 K1 st.bodies w2 bd bf bt bk vp' R1 hlen).mono ?_
        rintro e w3 ⟨rfl, r3, k3⟩
        refine ⟨rfl, ?_⟩
        rw [HC.out]
        have hI : Inv { st with dirs := st.dirs ++ [without st.now name] } d0 (cs ++ [⟨name, ⟨#[]⟩, 0⟩]) T1 K1 := inv_next O.inv ⟨name, ⟨#[]⟩, 0⟩ (by rw [app_remove]) (O.inv.dw.add (dw_without hdw name)) (by rw [app_remove]; exact G.num) G.keys G.apart
        refine pdid_mk ?_ hI hk k3
        rw [app_remove] at r3
        have hnow : ({ st with dirs := st.dirs ++ [without st.now name] } : St).now = without st.now name := now_append st _
        rw [hnow]; exact r3
      obtain ⟨k, hk⟩ : ∃ k, leads st.now name = k + 1 := ⟨leads st.now name - 1, by omega⟩
      rw [hk, show decide ((k + 1 : Nat) ≠ 0) = true by simp] at HL
      have HC1 : Hid ((st.remove name).1 = 0) := by show _ = _; rw [HC.out]
      obtain ⟨R, hR⟩ : ∃ R, R = (st.remove name).2 := ⟨_, rfl⟩
      rw [← hR] at HG
      rw [HC1.out, ← hR]
      clear h hw hok O hz hk hR hdw HC
      go_enter Try.func33, Try.ntmps33
      go_wp2_with (first
        | (go_at_call 24; refine HN.out.mono ?_; rintro e w1 ⟨rfl, hb1⟩; obtain ⟨x2, hl⟩ := HL.out _ hb1; have HB1 : Hid (Below w.heap.size w w1) := hb1; clear hb1)
        | (at_lookup; refine wp_look _ rfl _ _ 62 true rfl _ _ _ rfl rfl hl ?_)
        | (go_at_call 26; refine (HG.out _ HB1.out).mono ?_; rintro e w2 ⟨rfl, hk2, hnt⟩; have HNT : Hid (Calls Try.prog 27 #[.pointer (some ⟨p, 0, none⟩), .agg #[.string name, .string ⟨#[]⟩, .int .i64 0]] w2 fun e w3 => e = .returned (.tuple #[]) ∧ PDid PSx F p R w w3) := hnt; clear hnt hk2)
        | (go_at_call 27; refine HNT.out.mono ?_; rintro e w3 ⟨rfl, hr⟩))
      go_ret
      exact ⟨rfl, hr⟩
set_option maxHeartbeats 8000000 in
theorem rename_p (F : Nat → Prop) (p : Nat) (st : St) (old to : ByteArray) (w : World) (h : PSx F p st w) (hw : Wf st) :
    Calls Try.prog 32 #[.pointer (some ⟨p, 0, none⟩), .string old, .string to] w fun e w' => e = .returned (.int .i64 (st.rename old to).1) ∧ PDid PSx F p (st.rename old to).2 w w' := by
  obtain ⟨d0, cs, T, K, vd, vs, vt, vk, vp, O⟩ := psx_open h
  have HN : Hid (∀ n W, Below w.heap.size w W → Calls Try.prog 24 #[.string n] W fun e w' => e = .returned (.bool (okName n)) ∧ Below w.heap.size w w') := fun n W hb => (isName_c n W).mono fun e w' h => ⟨h.1, hb.trans (h.2.mono hb.size)⟩
  have hb0 : Hid (Below w.heap.size w w) := Below.refl _ _
  have HP : Hid (PSx F p st w) := h
  rcases hok : okName old with _ | _
  · have HC : Hid (st.rename old to = (32, st)) := by show _ = _; unfold St.rename; rw [if_pos (.inl hok)]
    have HN1 : Hid (Calls Try.prog 24 #[.string old] w fun e w' => e = .returned (.bool false) ∧ Below w.heap.size w w') := by have := HN.out old w hb0.out; rw [hok] at this; exact this
    clear h hw hok O HN
    rw [HC.out]
    go_enter Try.func32, Try.ntmps32
    go_wp2_with (go_at_call 24; refine HN1.out.mono ?_; rintro e w1 ⟨rfl, hb1⟩)
    go_ret
    exact ⟨rfl, pdid_refl HP.out hb1⟩
  have HN1 : Hid (Calls Try.prog 24 #[.string old] w fun e w' => e = .returned (.bool true) ∧ Below w.heap.size w w') := by have := HN.out old w hb0.out; rw [hok] at this; exact this
  rcases hok2 : okName to with _ | _
  · have HC : Hid (st.rename old to = (32, st)) := by show _ = _; unfold St.rename; rw [if_pos (.inr hok2)]
    have HN2 : Hid (∀ W, Below w.heap.size w W → Calls Try.prog 24 #[.string to] W fun e w' => e = .returned (.bool false) ∧ Below w.heap.size w w') := fun W hb => by have := HN.out to W hb; rw [hok2] at this; exact this
    have hne : old ≠ to := fun e => by rw [e, hok2] at hok; cases hok
    clear h hw hok hok2 O HN
    rw [HC.out]
    go_enter Try.func32, Try.ntmps32
    go_wp2_with (first
      | (go_at_call_of 24 (Value.string old); refine HN1.out.mono ?_; rintro e w1 ⟨rfl, hb1⟩; have HB1 : Hid (Below w.heap.size w w1) := hb1; clear hb1)
      | (go_at_call_of 24 (Value.string to); refine (HN2.out _ HB1.out).mono ?_; rintro e w2 ⟨rfl, hb2⟩))
    go_ret
    exact ⟨rfl, pdid_refl HP.out hb2⟩
  have HN2 : Hid (∀ W, Below w.heap.size w W → Calls Try.prog 24 #[.string to] W fun e w' => e = .returned (.bool true) ∧ Below w.heap.size w w') := fun W hb => by have := HN.out to W hb; rw [hok2] at this; exact this
  have HL : Hid (∀ W, Below w.heap.size w W → W.cell? ⟨p, 2, none⟩ = some vd ∧ (Instr.lookup 62 vd (.string old) true).run Try.prog W = .ok (.tuple #[.int .i64 (leads st.now old), .bool (decide (leads st.now old ≠ 0))]) W) := fun W hb => by
    refine ⟨cell_below hb (disk_cells O.blk).2.2.1, ?_⟩
    have := (O.maps.v.1.keep hb).sv_look true (Inv.pos hw) old
    simpa using this
  have hnn : ¬ (okName old = false ∨ okName to = false) := by rw [hok, hok2]; simp
  have HNT : Hid (∀ n W, (n = old ∨ n = to) → Below w.heap.size w W → Calls Try.prog 24 #[.string n] W fun e w' => e = .returned (.bool true) ∧ Below w.heap.size w w') := fun n W hn hb => by
    have := HN.out n W hb
    rcases hn with rfl | rfl
    · rw [hok] at this; exact this
    · rw [hok2] at this; exact this
  by_cases hz : leads st.now old = 0
  · have HC : Hid (st.rename old to = (30, st)) := by
      show _ = _
      unfold St.rename
      rw [if_neg hnn, if_pos hz]
    rw [hz, show decide ((0 : Nat) ≠ 0) = false by decide] at HL
    clear h hw hok hok2 O hz hnn HN
    rw [HC.out]
    go_enter Try.func32, Try.ntmps32
    go_wp2_with (first
      | (go_at_call 24; refine (HNT.out _ _ (by simp) (by first | with_reducible exact HB2.out | with_reducible exact hb0.out)).mono ?_; rintro e w2 ⟨rfl, hb2⟩; obtain ⟨x2, hl⟩ := HL.out _ hb2; have HB2 : Hid (Below w.heap.size w w2) := hb2; clear hb2)
      | (at_lookup; refine wp_look _ rfl _ _ 62 true rfl _ _ _ rfl rfl hl ?_))
    go_ret
    exact ⟨rfl, pdid_refl HP.out HB2.out⟩
  obtain ⟨k, hk⟩ : ∃ k, leads st.now old = k + 1 := ⟨leads st.now old - 1, by omega⟩
  by_cases heq : old = to
  · have HC : Hid (st.rename old to = (0, st)) := by
      show _ = _
      unfold St.rename
      rw [if_neg hnn, if_neg hz, if_pos heq]
    rw [hk, show decide ((k + 1 : Nat) ≠ 0) = true by simp] at HL
    clear h hw hok hok2 O hz hnn HN hk
    rw [HC.out]
    subst heq
    go_enter Try.func32, Try.ntmps32
    go_wp2_with (first
      | (go_at_call 24; refine (HNT.out _ _ (by simp) (by first | with_reducible exact HB2.out | with_reducible exact hb0.out)).mono ?_; rintro e w2 ⟨rfl, hb2⟩; obtain ⟨x2, hl⟩ := HL.out _ hb2; have HB2 : Hid (Below w.heap.size w w2) := hb2; clear hb2)
      | (at_lookup; refine wp_look _ rfl _ _ 62 true rfl _ _ _ rfl rfl hl ?_))
    go_ret
    exact ⟨rfl, pdid_refl HP.out HB2.out⟩
  have HC : Hid (st.rename old to = (0, { st with dirs := st.dirs ++ [with_ (without st.now old) to (leads st.now old)] })) := by
    show _ = _
    unfold St.rename
    rw [if_neg hnn, if_neg hz, if_neg heq]
  have hdw := O.inv.dw.now hw
  have hto := ok_ne hok2
  have HG : Hid (∀ W, Below w.heap.size w W → Calls Try.prog 26 #[.pointer (some ⟨p, 0, none⟩), .string to] W fun e w2 => e = .returned (.tuple #[]) ∧ Calls Try.prog 27 #[.pointer (some ⟨p, 0, none⟩), .agg #[.string old, .string to, .int .i64 (leads st.now old)]] w2 fun e w3 => e = .returned (.tuple #[]) ∧ PDid PSx F p (st.rename old to).2 w w3) := fun W hb => by
    obtain ⟨bd, bf, bt, bk, vp', R, _⟩ := (O.below hb).rn (leads_ne_nil hz)
    refine (giveUp_p to F p _ _ st.now d0 cs T K st.bodies W bd bf bt bk vp' R hdw (Inv.pos hw) O.inv.num O.inv.apart).mono ?_
    rintro e w2 ⟨rfl, ⟨T1, K1, R1, G⟩, hk2⟩
    have hkk : Kp F w w2 := (Kp.of_below (F := F) hb).trans hk2
    refine ⟨rfl, ?_⟩
    have hlen : cs.length ≤ 2097152 := by have := hw.long; have := O.inv.cs_len; omega
    refine (note_c ⟨old, to, leads st.now old⟩ F p _ _ st.now d0 cs T1 K1 st.bodies w2 bd bf bt bk vp' R1 hlen).mono ?_
    rintro e w3 ⟨rfl, r3, k3⟩
    refine ⟨rfl, ?_⟩
    rw [HC.out]
    have hmem := leads_mem st.now old hz
    have hm2 : (old, leads st.now old) ∈ without st.now to := List.mem_filter.2 ⟨hmem, by simpa using heq⟩
    have hnum : (T1.map (·.1)).Perm ((with_ (without st.now old) to (leads st.now old)).map (·.2)) := by
      refine G.num.trans ((without_nums (dw_without hdw to) hm2).trans ?_)
      rw [without_comm]
      exact (with_nums _ _ _).symm
    have hI : Inv { st with dirs := st.dirs ++ [with_ (without st.now old) to (leads st.now old)] } d0 (cs ++ [⟨old, to, leads st.now old⟩]) T1 K1 := by
      refine inv_next O.inv ⟨old, to, leads st.now old⟩ (by rw [app_rename _ _ _ _ hto]) ?_ (by rw [app_rename _ _ _ _ hto]; exact hnum) G.keys G.apart
      have hs := step_DW O.inv.dw hw (o := ⟨5, 0, 0, old, to, 0, 0, 0, 0, .slice none 0 0, []⟩)
      have e : st.step ⟨5, 0, 0, old, to, 0, 0, 0, 0, .slice none 0 0, []⟩ = (st.rename old to).2 := by unfold St.step; simp
      rw [e, HC.out] at hs
      exact hs
    refine pdid_mk ?_ hI hkk k3
    rw [app_rename _ _ _ _ hto] at r3
    have hnow : ({ st with dirs := st.dirs ++ [with_ (without st.now old) to (leads st.now old)] } : St).now = with_ (without st.now old) to (leads st.now old) := now_append st _
    rw [hnow]; exact r3
  rw [hk, show decide ((k + 1 : Nat) ≠ 0) = true by simp] at HL
  rw [hk] at HG
  have HC1 : Hid ((st.rename old to).1 = 0) := by show _ = _; rw [HC.out]
  obtain ⟨R, hR⟩ : ∃ R, R = (st.rename old to).2 := ⟨_, rfl⟩
  rw [← hR] at HG
  rw [HC1.out, ← hR]
  have b0 : (old.toList == to.toList) = false := by rw [beq_toList]; simpa using heq
  clear h hw hok hok2 O hz hk hR hdw HC HN hnn hto heq
  go_enter Try.func32, Try.ntmps32
  go_wp2_with (first
    | (go_at_call_of 24 (Value.string old); refine HN1.out.mono ?_; rintro e w1 ⟨rfl, hb1⟩; have HB1 : Hid (Below w.heap.size w w1) := hb1; clear hb1)
    | (go_at_call_of 24 (Value.string to); refine (HN2.out _ HB1.out).mono ?_; rintro e w2 ⟨rfl, hb2⟩; obtain ⟨x2, hl⟩ := HL.out _ hb2; have HB2 : Hid (Below w.heap.size w w2) := hb2; clear hb2)
    | (at_lookup; refine wp_look _ rfl _ _ 62 true rfl _ _ _ rfl rfl hl ?_)
    | (go_at_call 26; refine (HG.out _ HB2.out).mono ?_; rintro e w3 ⟨rfl, hnt⟩; have HNT : Hid (Calls Try.prog 27 #[.pointer (some ⟨p, 0, none⟩), .agg #[.string old, .string to, .int .i64 ((k + 1 : Nat) : Int)]] w3 fun e w3 => e = .returned (.tuple #[]) ∧ PDid PSx F p R w w3) := hnt; clear hnt)
    | (go_at_call 27; refine HNT.out.mono ?_; rintro e w4 ⟨rfl, hr⟩))
  go_ret
  exact ⟨rfl, hr⟩
theorem Raw.cleared {F : Nat → Prop} {p cap made : Nat} {now d0 : Dr} {cs : List Chg} {T K : List (Nat × Nat)} {bs : List Bd} {w : World} (h : Raw F p cap made now d0 cs T K bs w) :
    ∃ vk, w.cell? ⟨p, 5, none⟩ = some vk ∧ ∃ w', (∀ ty, (Builtin.clear_ #[63] ty #[vk]).run Try.prog w = .ok (.tuple #[]) w') ∧ Raw F p cap made now d0 cs T [] bs w' ∧ Kp F w w' := by
  obtain ⟨vd, vs, vt, vk, vp, hp, hF, hm, ho, hoF, hb, hn⟩ := h
  refine ⟨vk, (disk_cells hp).2.2.2.2.2.1, ?_⟩
  rcases hm with ⟨rfl, rfl, rfl, rfl, rfl, rfl, rfl, h8⟩ | ⟨bd, bf, bt, bk, rfl, rfl, rfl, rfl, f1, f2, f3, f4, n1, n2, n3, n4, n5, n6, m1, m2, m3, m4⟩
  · exact ⟨w, fun ty => clear_nil Try.underlying63 ty, ⟨_, _, _, _, vp, hp, hF, .inl ⟨rfl, rfl, rfl, rfl, rfl, rfl, rfl, h8⟩, ho, hoF, hb, hn⟩, Kp.refl _ _⟩
  · have R : RN F p cap made now d0 cs T K bs w bd bf bt bk vp := ⟨hp, hF, f1, f2, f3, f4, n1, n2, n3, n4, n5, n6, m1, m2, m3, m4, ho, hoF, hb⟩
    obtain ⟨w', hr, hm', ht⟩ := m4.clear (P := Try.prog) Try.underlying63 0
    have R' : RN F p cap made now d0 cs T [] bs w' bd bf bt bk vp := R.turn m4 (fun k _ hk => ht.other hk) (m1.keep (ht.other n3)) (m2.keep (ht.other n5)) (m3.keep (ht.other n6)) hm' (fun e he => by simp at he; exact List.mem_append_left _ he)
    exact ⟨w', fun ty => hr, R'.raw, ht.kp f4⟩
set_option maxHeartbeats 8000000 in
theorem syncDir_p (F : Nat → Prop) (p : Nat) (st : St) (w : World) (h : PSx F p st w) (hw : Wf st) :
    Calls Try.prog 31 #[.pointer (some ⟨p, 0, none⟩)] w fun e w' => e = .returned (.tuple #[]) ∧ PDid PSx F p st.syncDir w w' := by
  obtain ⟨d0, cs, T, K, vd, vs, vt, vk, vp, O⟩ := psx_open h
  have hlen : cs.length ≤ 2097152 := by have := hw.long; have := O.inv.cs_len; omega
  obtain ⟨ao, cp, c6, hcl, hcm, f6⟩ := O.raw.p6
  have HS : Hid (Calls Try.prog 48 #[.pointer (some ⟨p, 0, none⟩), .int .i64 cs.length] w fun e w1 => e = .returned (.tuple #[]) ∧ ∃ vk, w1.cell? ⟨p, 5, none⟩ = some vk ∧ ∃ w', (∀ ty, (Builtin.clear_ #[63] ty #[vk]).run Try.prog w1 = .ok (.tuple #[]) w') ∧ Hid (PDid PSx F p st.syncDir w w')) := (settle_c cs.length F p _ _ st.now d0 cs T K st.bodies w O.raw (Nat.le_refl _) hlen).mono (by
    rintro e w1 ⟨rfl, r1, k1⟩
    obtain ⟨vk', c5, w', hr, r2, k2⟩ := r1.cleared
    refine ⟨rfl, vk', c5, w', hr, ?_⟩
    rw [List.take_length, ← O.inv.now_eq] at r2
    have hI : Inv st.syncDir st.now [] T [] := ⟨rfl, fun d hd => by simp [St.syncDir] at hd; subst hd; exact O.inv.dw.now hw, O.inv.num, fun d hd e he => by
      simp [St.syncDir] at hd
      subst hd
      exact .inl (O.inv.num.mem_iff.2 (List.mem_map.2 ⟨e, he, rfl⟩)), by simp⟩
    have hs2 := k2.size
    refine ⟨⟨st.now, [], T, [], r2.keep (fun _ _ _ => rfl) fun k hk => ?_, hI⟩, k1.then k2⟩
    rcases hk with hk | hk
    · exact .inl hk
    · exact .inr ⟨hk.1, by omega⟩)
  obtain ⟨n, hn⟩ : ∃ n, n = cs.length := ⟨_, rfl⟩
  rw [← hn] at c6 HS
  clear h hw O hlen hcl hcm f6 hn
  go_enter Try.func31, Try.ntmps31
  go_wp2_with (first
    | (go_at_call 48; refine HS.out.mono ?_; rintro e w1 ⟨rfl, vk', c5, w2, hr2, HR⟩)
    | (at_builtin; refine wp_clear _ rfl _ 63 rfl _ rfl w2 (hr2 _) ?_))
  go_end0
  exact ⟨rfl, HR.out⟩
end Go.Proofs.Ytodjgbmfmpbkjab
