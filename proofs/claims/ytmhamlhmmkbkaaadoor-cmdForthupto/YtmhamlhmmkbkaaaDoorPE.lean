
-- Plain: the landed steps come to what a line means.
import Derived.Test.YtmhamlhmmkbkaaaDoorKY
import Derived.Test.YtmhamlhmmkbkaaaDoorRO
namespace Go.Proofs.YtmhamlhmmkbkaaaDoor
set_option linter.unusedVariables false
set_option maxRecDepth 100000
set_option linter.unusedSimpArgs false
def mixQ (r : Rd) : List UInt8 := mixL (opF r.op r.s) (whOf r.po) r.up r.det r.thin r.kind r.dat r.qu r.bare (poL r.po)
def ar3 (r : Rd) (L : List ByteArray) : Ans := lastG 0 r L
def ar2 (r : Rd) (L : List ByteArray) : Ans := if mixQ r = [] then ar3 r L else .inl (byB (mixQ r), 155)
def ar1 (r : Rd) (L : List ByteArray) : Ans := match keyG r L with
  | .inl x => .inl x
  | .inr q => ar2 q.1 q.2
def ar0 (r : Rd) (L : List ByteArray) : Ans := match optR r L with
  | .inl x => .inl (x, 154)
  | .inr q => ar1 q.1 q.2
theorem fin_mix (r : Rd) : mixR (fin r) = mixQ r := by
  unfold mixR mixQ
  rw [opF_fin]
  unfold fin
  split <;> rfl
theorem fin_cm (r : Rd) (a b : ByteArray) (t : List ByteArray) : ({ cmOf (fin r) a with arc := b, nms := t } : Cm) = cmLn 0 r a b t := by
  unfold cmOf cmLn
  rw [opF_fin]
  unfold fin
  split <;> rfl
theorem fin_po (r : Rd) : (fin r).po = r.po := by unfold fin; split <;> rfl
theorem rest_eq (r : Rd) (a : ByteArray) (t : List ByteArray) : restC (cmOf (fin r) a) t = restG 0 r a t := by
  cases t with
  | nil => rfl
  | cons b u =>
    show Sum.inr _ = Sum.inr _
    rw [fin_cm]
theorem last_eq (r : Rd) (t : List ByteArray) : lastC (fin r) t = lastG 0 r t := by
  unfold lastC lastG
  rw [fin_po, rest_eq]
  by_cases h : r.po = 0
  · rw [if_pos h, if_pos h]
  · rw [if_neg h, if_neg h]
    cases t with
    | nil => rfl
    | cons a u => exact rest_eq r a u
theorem key_eq (r : Rd) (L : List ByteArray) : keyR r L = match keyG r L with
    | .inl x => .inl x
    | .inr q => .inr (fin q.1, q.2) := by
  cases L with
  | nil => rfl
  | cons k t =>
    unfold keyR
    dsimp only
    rw [← foldG_B, foldG_app]
    cases hf : foldG stB r (letL (und k)) with
    | inl x => rw [keyG_1 hf]
    | inr r1 =>
      simp only []
      cases hk : kwR stB r1 t with
      | inl x =>
        rw [keyG_2 hf hk]
        have hk2 := hk
        unfold kwR at hk2
        cases hd : foldG stB r1 (dashL t) with
        | inl y => rw [hd] at hk2; injection hk2 with hk2; subst hk2; rfl
        | inr r2 => rw [hd] at hk2; cases hk2
      | inr q =>
        have hk2 := hk
        unfold kwR at hk2
        cases hd : foldG stB r1 (dashL t) with
        | inl y => rw [hd] at hk2; cases hk2
        | inr r2 =>
          rw [hd] at hk2
          injection hk2 with hk2
          subst hk2
          by_cases ho : opF r2.op r2.s = 0
          · rw [keyG_3 hf hk ho]
            simp only []
            rw [opF_fin, if_pos ho]
          · rw [keyG_4 hf hk ho]
            simp only []
            rw [opF_fin, if_neg ho]
theorem ar_eq (t : List ByteArray) : arC t = ar0 rd0 t := by
  unfold arC ar0
  cases optR rd0 t with
  | inl w => rfl
  | inr q =>
    obtain ⟨r, t1⟩ := q
    simp only []
    unfold ar1
    rw [key_eq]
    cases keyG r t1 with
    | inl x => rfl
    | inr q =>
      simp only []
      unfold ar2 ar3
      rw [fin_mix, last_eq]
theorem stR_eq (r : Rd) (x : List UInt8) : stG stR r x = if x = [68] then .inr { r with det := true } else .inl 153 := by
  cases x with
  | nil => rfl
  | cons a t =>
    cases t with
    | nil =>
      show stR r a = _
      unfold stR
      by_cases h : a = 68
      · subst h; rfl
      · rw [if_neg h, if_neg (fun q => h (by injection q))]
    | cons c u =>
      show Sum.inl 153 = _
      rw [if_neg (fun q => by injection q with _ q; cases q)]
theorem ranF_eq (l : List (List UInt8)) : ∀ r : Rd, foldG stR r l = match ranF r.det l with
    | .inl x => .inl (x, 153)
    | .inr d => .inr { r with det := d } := by
  induction l with
  | nil => intro r; rfl
  | cons x xs ih =>
    intro r
    rw [foldG.eq_2, stR_eq]
    unfold ranF
    by_cases h : x = [68]
    · rw [if_pos h, if_pos h]
      simp only []
      rw [ih]
    · rw [if_neg h, if_neg h]
def rdRan : Rd := { rd0 with s := true }
def ranG (L : List ByteArray) : Ans := match kwR stR rdRan L with
  | .inl x => .inl (byB x.1, x.2)
  | .inr q => lastG 1 q.1 q.2
theorem ran_eq (t : List ByteArray) : ranC t = ranG t := by
  unfold ranC ranG kwR
  rw [ranF_eq]
  cases hd : ranF rdRan.det (dashL t) with
  | inl x =>
    have : ranF false (dashL t) = .inl x := hd
    rw [this]
  | inr d =>
    have : ranF false (dashL t) = .inr d := hd
    rw [this]
    simp only []
    cases t.dropWhile dsh with
    | nil => rfl
    | cons a u => rfl
theorem dec_eq (p : ByteArray) (t : List ByteArray) : decC (p :: t) = if p = wAr then ar0 rd0 t else if p = wRan then ranG t else .inl (p, 150) := by
  unfold decC
  dsimp only
  by_cases h : p = wRan
  · rw [if_pos h, if_neg (by rw [h]; decide), if_pos h, ran_eq]
  · rw [if_neg h]
    by_cases h2 : p = wAr
    · rw [if_pos h2, if_pos h2, ar_eq]
    · rw [if_neg h2, if_neg h2, if_neg h]
end Go.Proofs.YtmhamlhmmkbkaaaDoor
