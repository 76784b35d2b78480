import Derived.Test.YtmhamlhmmkbkaaaDoorMC
import Derived.Test.YtmhamlhmmkbkaaaDoorM1

-- readAr, readRanlib.
namespace Go.Proofs.YtmhamlhmmkbkaaaDoor
open Go.ChangeShapes Go.WideShapes Go.ChangeAt Go.RowKit Go.MapKept Go.Shelf
set_option linter.unusedVariables false
set_option maxRecDepth 100000
set_option linter.unusedSimpArgs false
def LnP (w0 : World) (b : Nat) (wx : World) (A : Ans) (F : Rd → List ByteArray → Ans) : Prop := ∃ r L, Ln w0 b wx 0 r ⟨#[]⟩ ⟨#[]⟩ L ∧ L.length ≤ 16777216 ∧ A = F r L
def EndP (w0 : World) (b : Nat) (wx : World) (A : Ans) : Prop := ∃ c, A = .inr c ∧ RoPost w0 b A (.returned (.tuple #[.string ⟨#[]⟩, .int .i64 0])) wx
def StAr (w0 : World) (b : Nat) (A : Ans) (k : Nat) (wx : World) : Prop :=
  (k = 0 ∧ LnP w0 b wx A ar0) ∨ (k = 1 ∧ LnP w0 b wx A ar1) ∨ (k = 2 ∧ LnP w0 b wx A ar2) ∨ (k = 3 ∧ LnP w0 b wx A ar3) ∨ (k = 4 ∧ EndP w0 b wx A)
theorem optR_len (L : List ByteArray) : ∀ (r : Rd) (q : Rd × List ByteArray), optR r L = .inr q → q.2.length ≤ L.length := by
  induction L with
  | nil => intro r q h; rw [optR.eq_1] at h; injection h with h; subst h; exact Nat.le_refl _
  | cons x t ih =>
    intro r q h
    by_cases hl : isLong x = true
    · rw [optR_yes r x t hl] at h
      cases ho : optW r x with
      | none => rw [ho] at h; cases h
      | some r' =>
        rw [ho] at h
        have := ih r' q h
        simp only [List.length_cons]; omega
    · rw [optR.eq_2, if_neg hl] at h
      injection h with h; subst h; exact Nat.le_refl _
theorem keyG_len {r : Rd} {L : List ByteArray} {q : Rd × List ByteArray} (h : keyG r L = .inr q) : q.2.length ≤ L.length := by
  cases L with
  | nil => cases h
  | cons k t =>
    cases hf : foldG stB r (letL (und k)) with
    | inl x => rw [keyG_1 hf] at h; cases h
    | inr r1 =>
      cases hk : kwR stB r1 t with
      | inl x => rw [keyG_2 hf hk] at h; cases h
      | inr p =>
        by_cases ho : opF p.1.op p.1.s = 0
        · rw [keyG_3 hf hk ho] at h; cases h
        · rw [keyG_4 hf hk ho] at h
          injection h with h
          subst h
          unfold kwR at hk
          cases hd : foldG stB r1 (dashL t) with
          | inl y => rw [hd] at hk; cases hk
          | inr r2 =>
            rw [hd] at hk
            injection hk with hk
            subst hk
            have := (List.dropWhile_suffix dsh (l := t)).length_le
            simp only [List.length_cons]; omega
def ArPost (w0 : World) (b : Nat) (A : Ans) (e : Ending) (w' : World) : Prop := RoPost w0 b A e w'
theorem ro_no {w0 : World} {b : Nat} {A : Ans} {x : ByteArray × Int} {w' : World} {e : Ending} (hA : A = .inl x) (he : e = .returned (.tuple #[.string x.1, .int .i64 x.2])) (hn : x.2 ≠ 0) (hb : Below w0.heap.size w0 w') : RoPost w0 b A e w' := by
  rw [hA]; exact ⟨he, hn, hb⟩
set_option maxHeartbeats 8000000 in
theorem readAr_c (HD : DrOk) (w0 : World) (b : Nat) (w : World) (L : List ByteArray) (hT : TabU w0) (h : Ln w0 b w 0 rd0 ⟨#[]⟩ ⟨#[]⟩ L) (hl : L.length ≤ 16777216) :
    Calls Tryd.prog 14 #[.pointer (some ⟨b, 0, none⟩)] w (RoPost w0 b (ar0 rd0 L)) := by
  obtain ⟨A, hA⟩ : ∃ A, A = ar0 rd0 L := ⟨_, rfl⟩
  rw [← hA]
  have H0 : Hid (StAr w0 b A 0 w) := .inl ⟨rfl, rd0, L, h, hl, hA⟩
  have HDD := hidK HD
  have HT := hidK hT
  clear hA h HD hT
  go_enter Tryd.func14, Tryd.ntmps14
  go_wp2
  go_loopw [9] (fun i wx => ∃ k : Nat, i = .int .i64 k ∧ StAr w0 b A k wx) (fun i _ => 4 - (intOf i).toNat)
  case atStart => exact ⟨0, rfl, H0.out⟩
  case round =>
    obtain ⟨k, rfl, hst⟩ := hrel
    clear H0
    rcases hst with ⟨rfl, r, L1, hln, hl1, ha⟩ | ⟨rfl, r, L1, hln, hl1, ha⟩ | ⟨rfl, r, L1, hln, hl1, ha⟩ | ⟨rfl, r, L1, hln, hl1, ha⟩ | ⟨rfl, c, ha, hro⟩
    · have HC := options_c w0 b wr 0 r ⟨#[]⟩ ⟨#[]⟩ L1 hln
      unfold ar0 at ha
      have hle := optR_len L1 r
      cases ho : optR r L1 with
      | inl x =>
        rw [ho] at HC ha
        have HCC := hidK HC
        have HA := hidK ha
        clear HC ha hln hle ho
        go_wp2_with (first
          | (refine wp_idx rfl _ _ _ rfl (.agg #[.func (.func 21) #[] #[], .func (.func 22) #[] #[], .func (.func 23) #[] #[], .func (.func 24) #[] #[]]) (.int .i64 0) (.func (.func 21) #[] #[]) rfl rfl (by kernel_rfl) ?_)
          | (go_at_call 21; refine HCC.out.mono ?_; rintro e w1 ⟨rfl, hb1⟩))
        go_ret2
        exact ro_no HA.out rfl (show (154 : Int) ≠ 0 from by decide) hb1
      | inr q =>
        have hq := hle q ho
        rw [ho] at HC ha
        have HCC := hidK HC
        have HA := hidK ha
        clear HC ha hln hle ho
        go_wp2_with (first
          | (refine wp_idx rfl _ _ _ rfl (.agg #[.func (.func 21) #[] #[], .func (.func 22) #[] #[], .func (.func 23) #[] #[], .func (.func 24) #[] #[]]) (.int .i64 0) (.func (.func 21) #[] #[]) rfl rfl (by kernel_rfl) ?_)
          | (go_at_call 21; refine HCC.out.mono ?_; rintro e w1 ⟨rfl, l1, k1⟩))
        go_roundw
        case rel => exact ⟨1, by go_num, .inr (.inl ⟨rfl, q.1, q.2, l1, by omega, HA.out⟩)⟩
        case measure => simp [intOf]
    · have HC := keys_c HDD.out w0 b wr 0 r ⟨#[]⟩ ⟨#[]⟩ L1 HT.out hln
      unfold ar1 at ha
      cases ho : keyG r L1 with
      | inl x =>
        rw [ho] at HC ha
        have HCC := hidK HC
        have HA := hidK ha
        clear HC ha hln ho
        go_wp2_with (first
          | (refine wp_idx rfl _ _ _ rfl (.agg #[.func (.func 21) #[] #[], .func (.func 22) #[] #[], .func (.func 23) #[] #[], .func (.func 24) #[] #[]]) (.int .i64 1) (.func (.func 22) #[] #[]) rfl rfl (by kernel_rfl) ?_)
          | (go_at_call 22; refine HCC.out.mono ?_; rintro e w1 ⟨rfl, hne, hb1⟩; have hz : (x.2 != 0) = true := (by simp [hne])))
        go_ret2
        exact ro_no HA.out rfl hne hb1
      | inr q =>
        have hq := keyG_len ho
        rw [ho] at HC ha
        have HCC := hidK HC
        have HA := hidK ha
        clear HC ha hln ho
        go_wp2_with (first
          | (refine wp_idx rfl _ _ _ rfl (.agg #[.func (.func 21) #[] #[], .func (.func 22) #[] #[], .func (.func 23) #[] #[], .func (.func 24) #[] #[]]) (.int .i64 1) (.func (.func 22) #[] #[]) rfl rfl (by kernel_rfl) ?_)
          | (go_at_call 22; refine HCC.out.mono ?_; rintro e w1 ⟨rfl, l1, k1⟩))
        go_roundw
        case rel => exact ⟨2, by go_num, .inr (.inr (.inl ⟨rfl, q.1, q.2, l1, by omega, HA.out⟩))⟩
        case measure => simp [intOf]
    · have HC : Hid (Calls Tryd.prog 23 #[.pointer (some ⟨b, 0, none⟩)] wr (CxPost w0 b wr 0 r ⟨#[]⟩ ⟨#[]⟩ L1 (mixQ r))) := checkMix_c w0 b wr 0 r ⟨#[]⟩ ⟨#[]⟩ L1 hln
      unfold ar2 at ha
      clear hln
      by_cases hm : mixQ r = []
      · rw [if_pos hm] at ha
        have HA := hidK ha
        have HM := hidK hm
        clear ha hm
        go_wp2_with (first
          | (refine wp_idx rfl _ _ _ rfl (.agg #[.func (.func 21) #[] #[], .func (.func 22) #[] #[], .func (.func 23) #[] #[], .func (.func 24) #[] #[]]) (.int .i64 2) (.func (.func 23) #[] #[]) rfl rfl (by kernel_rfl) ?_)
          | (go_at_call 23; refine HC.out.mono ?_; rintro e w1 ⟨hb1, ⟨_, rfl, l1, k1⟩ | ⟨hne, _⟩⟩; rotate_left; (exact absurd HM.out hne)))
        go_roundw
        case rel => exact ⟨3, by go_num, .inr (.inr (.inr (.inl ⟨rfl, r, L1, l1, hl1, HA.out⟩)))⟩
        case measure => simp [intOf]
      · rw [if_neg hm] at ha
        have HA := hidK ha
        have HM := hidK hm
        clear ha hm
        go_wp2_with (first
          | (refine wp_idx rfl _ _ _ rfl (.agg #[.func (.func 21) #[] #[], .func (.func 22) #[] #[], .func (.func 23) #[] #[], .func (.func 24) #[] #[]]) (.int .i64 2) (.func (.func 23) #[] #[]) rfl rfl (by kernel_rfl) ?_)
          | (go_at_call 23; refine HC.out.mono ?_; rintro e w1 ⟨hb1, ⟨hne, _⟩ | ⟨_, rfl⟩⟩; (exact absurd hne HM.out)))
        go_ret2
        exact ro_no HA.out rfl (show (155 : Int) ≠ 0 from by decide) hb1
    · have HC := operands_c w0 b wr 0 r L1 hln hl1
      unfold ar3 at ha
      rw [← ha] at HC
      clear hln
      cases A with
      | inl x =>
        have HCC := hidK HC
        clear HC ha
        go_wp2_with (first
          | (refine wp_idx rfl _ _ _ rfl (.agg #[.func (.func 21) #[] #[], .func (.func 22) #[] #[], .func (.func 23) #[] #[], .func (.func 24) #[] #[]]) (.int .i64 3) (.func (.func 24) #[] #[]) rfl rfl (by kernel_rfl) ?_)
          | (go_at_call 24; refine HCC.out.mono ?_; rintro e w1 ⟨rfl, hne, hb1⟩; have hz : (x.2 != 0) = true := (by simp [hne])))
        go_ret2
        exact ⟨rfl, hne, hb1⟩
      | inr c =>
        have HCC := hidK HC
        clear HC ha
        go_wp2_with (first
          | (refine wp_idx rfl _ _ _ rfl (.agg #[.func (.func 21) #[] #[], .func (.func 22) #[] #[], .func (.func 23) #[] #[], .func (.func 24) #[] #[]]) (.int .i64 3) (.func (.func 24) #[] #[]) rfl rfl (by kernel_rfl) ?_)
          | (go_at_call 24; refine HCC.out.mono ?_; rintro e w1 ⟨rfl, hb1, hx1⟩; have HX1 := hidK hx1; clear hx1))
        go_roundw
        case rel => exact ⟨4, by go_num, .inr (.inr (.inr (.inr ⟨rfl, c, rfl, rfl, hb1, HX1.out⟩)))⟩
        case measure => simp [intOf]
    · have HR := hidK hro
      clear hro ha
      go_wp2
      go_ret2
      exact HR.out
set_option maxHeartbeats 4000000 in
theorem readRan_c (HD : DrOk) (w0 : World) (b : Nat) (w : World) (L : List ByteArray) (hT : TabU w0) (h : Ln w0 b w 0 rd0 ⟨#[]⟩ ⟨#[]⟩ L) (hl : L.length ≤ 16777216) :
    Calls Tryd.prog 15 #[.pointer (some ⟨b, 0, none⟩)] w (RoPost w0 b (ranG L)) := by
  obtain ⟨a, n, c, g1, g2⟩ := h.box
  have HG := hidK g1
  have HH := hidK h
  have HRL := hidK ranLetters_c
  have HKW : Hid (∀ (W : World) (m : Nat), Ln w0 b W 1 rdRan ⟨#[]⟩ ⟨#[]⟩ L → MapAt (.int .i32) W m ranP → Calls Tryd.prog 25 #[.pointer (some ⟨b, 0, none⟩), .map (some m)] W (KwPost w0 b W 1 ⟨#[]⟩ ⟨#[]⟩ (kwR stR rdRan L))) := fun W m h1 h2 => keyWords_c HD act_ran w0 b m W 1 rdRan ⟨#[]⟩ ⟨#[]⟩ L hT h1 h2
  clear h g1 hT HD
  unfold ranG
  have g3 : w.heap[b]? = some (.cells #[.slice a n c, .int .i64 0, .int .u8 0, .bool false, .bool false, .bool false, .bool false, .bool false, .bool false, .bool false, .int .i64 0, .int .i64 0, .string ⟨#[]⟩, .string ⟨#[]⟩, .slice none 0 0, .string ⟨#[]⟩] 43 (0, 0)) := g2
  clear g2
  have HO : Hid (∀ W r1 L1, Ln w0 b W 1 r1 ⟨#[]⟩ ⟨#[]⟩ L1 → L1.length ≤ 16777216 → Calls Tryd.prog 24 #[.pointer (some ⟨b, 0, none⟩)] W (RoPost w0 b (lastG 1 r1 L1))) := fun W r1 L1 h1 h2 => operands_c w0 b W 1 r1 L1 h1 h2
  cases hk : kwR stR rdRan L with
  | inl x =>
    rw [hk] at HKW
    clear hk HO
    go_enter Tryd.func15, Tryd.ntmps15
    go_upto_region 2 with (first
      | (refine wpList_store_kz rfl rfl _ _ _ rfl b 1 (.int .i64 1) rfl rfl _ _ #[.slice a n c, .int .i64 1, .int .u8 0, .bool false, .bool false, .bool false, .bool false, .bool false, .bool false, .bool false, .int .i64 0, .int .i64 0, .string ⟨#[]⟩, .string ⟨#[]⟩, .slice none 0 0, .string ⟨#[]⟩] g3 (by kernel_rfl) rfl rfl rfl ?_; intro W1 S1 q1)
      | (refine wpList_store_kz rfl rfl _ _ _ rfl b 2 (.int .u8 115) rfl rfl _ _ #[.slice a n c, .int .i64 1, .int .u8 115, .bool false, .bool false, .bool false, .bool false, .bool false, .bool false, .bool false, .int .i64 0, .int .i64 0, .string ⟨#[]⟩, .string ⟨#[]⟩, .slice none 0 0, .string ⟨#[]⟩] S1 (by kernel_rfl) rfl rfl rfl ?_; intro W2 S2 q2))
    have l2 : Ln w0 b W2 1 rdRan ⟨#[]⟩ ⟨#[]⟩ L := ⟨HH.out.lo, (q1.two q2).belowN HH.out.bel HH.out.lo (Nat.le_refl _), by decide, _, _, _, HG.out, S2⟩
    clear g3 S1 S2
    go_wp2_with (first
      | (go_at_call 26; refine (HRL.out _).mono ?_; rintro e w3 ⟨rfl, m3, b3⟩; have l3 := l2.on b3)
      | (go_at_call 25; refine (HKW.out _ _ l3 m3).mono ?_; rintro e w4 ⟨rfl, hne, hb4⟩; have hz : (x.2 != 0) = true := (by simp [hne])))
    go_ret2
    exact ⟨rfl, hne, hb4⟩
  | inr q =>
    have hq : q.2.length ≤ L.length := by
      unfold kwR at hk
      cases hd : foldG stR rdRan (dashL L) with
      | inl y => rw [hd] at hk; cases hk
      | inr r2 =>
        rw [hd] at hk
        injection hk with hk
        subst hk
        exact (List.dropWhile_suffix dsh (l := L)).length_le
    rw [hk] at HKW
    clear hk
    show Calls _ _ _ _ (RoPost w0 b (lastG 1 q.1 q.2))
    obtain ⟨A, hA⟩ : ∃ A, A = lastG 1 q.1 q.2 := ⟨_, rfl⟩
    have HO1 : Hid (∀ W, Ln w0 b W 1 q.1 ⟨#[]⟩ ⟨#[]⟩ q.2 → Calls Tryd.prog 24 #[.pointer (some ⟨b, 0, none⟩)] W (RoPost w0 b A)) := fun W h1 => by
      rw [hA]; exact HO.out W q.1 q.2 h1 (by omega)
    rw [← hA]
    clear HO hA
    cases A with
    | inl x =>
      go_enter Tryd.func15, Tryd.ntmps15
      go_upto_region 2 with (first
        | (refine wpList_store_kz rfl rfl _ _ _ rfl b 1 (.int .i64 1) rfl rfl _ _ #[.slice a n c, .int .i64 1, .int .u8 0, .bool false, .bool false, .bool false, .bool false, .bool false, .bool false, .bool false, .int .i64 0, .int .i64 0, .string ⟨#[]⟩, .string ⟨#[]⟩, .slice none 0 0, .string ⟨#[]⟩] g3 (by kernel_rfl) rfl rfl rfl ?_; intro W1 S1 q1)
        | (refine wpList_store_kz rfl rfl _ _ _ rfl b 2 (.int .u8 115) rfl rfl _ _ #[.slice a n c, .int .i64 1, .int .u8 115, .bool false, .bool false, .bool false, .bool false, .bool false, .bool false, .bool false, .int .i64 0, .int .i64 0, .string ⟨#[]⟩, .string ⟨#[]⟩, .slice none 0 0, .string ⟨#[]⟩] S1 (by kernel_rfl) rfl rfl rfl ?_; intro W2 S2 q2))
      have l2 : Ln w0 b W2 1 rdRan ⟨#[]⟩ ⟨#[]⟩ L := ⟨HH.out.lo, (q1.two q2).belowN HH.out.bel HH.out.lo (Nat.le_refl _), by decide, _, _, _, HG.out, S2⟩
      clear g3 S1 S2
      go_wp2_with (first
        | (go_at_call 26; refine (HRL.out _).mono ?_; rintro e w3 ⟨rfl, m3, b3⟩; have l3 := l2.on b3)
        | (go_at_call 25; refine (HKW.out _ _ l3 m3).mono ?_; rintro e w4 ⟨rfl, l4, k4⟩)
        | (go_at_call 24; refine (HO1.out _ l4).mono ?_; rintro e w5 ⟨rfl, hne, hb5⟩))
      go_ret2
      exact ⟨rfl, hne, hb5⟩
    | inr c9 =>
      go_enter Tryd.func15, Tryd.ntmps15
      go_upto_region 2 with (first
        | (refine wpList_store_kz rfl rfl _ _ _ rfl b 1 (.int .i64 1) rfl rfl _ _ #[.slice a n c, .int .i64 1, .int .u8 0, .bool false, .bool false, .bool false, .bool false, .bool false, .bool false, .bool false, .int .i64 0, .int .i64 0, .string ⟨#[]⟩, .string ⟨#[]⟩, .slice none 0 0, .string ⟨#[]⟩] g3 (by kernel_rfl) rfl rfl rfl ?_; intro W1 S1 q1)
        | (refine wpList_store_kz rfl rfl _ _ _ rfl b 2 (.int .u8 115) rfl rfl _ _ #[.slice a n c, .int .i64 1, .int .u8 115, .bool false, .bool false, .bool false, .bool false, .bool false, .bool false, .bool false, .int .i64 0, .int .i64 0, .string ⟨#[]⟩, .string ⟨#[]⟩, .slice none 0 0, .string ⟨#[]⟩] S1 (by kernel_rfl) rfl rfl rfl ?_; intro W2 S2 q2))
      have l2 : Ln w0 b W2 1 rdRan ⟨#[]⟩ ⟨#[]⟩ L := ⟨HH.out.lo, (q1.two q2).belowN HH.out.bel HH.out.lo (Nat.le_refl _), by decide, _, _, _, HG.out, S2⟩
      clear g3 S1 S2
      go_wp2_with (first
        | (go_at_call 26; refine (HRL.out _).mono ?_; rintro e w3 ⟨rfl, m3, b3⟩; have l3 := l2.on b3)
        | (go_at_call 25; refine (HKW.out _ _ l3 m3).mono ?_; rintro e w4 ⟨rfl, l4, k4⟩)
        | (go_at_call 24; refine (HO1.out _ l4).mono ?_; rintro e w5 ⟨rfl, hb5, hx5⟩; have HX5 := hidK hx5; clear hx5))
      go_ret2
      exact ⟨rfl, hb5, HX5.out⟩
end Go.Proofs.YtmhamlhmmkbkaaaDoor
