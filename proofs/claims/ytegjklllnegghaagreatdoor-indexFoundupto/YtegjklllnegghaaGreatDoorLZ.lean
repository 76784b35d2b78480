
-- IndexBack's walk.
import Derived.Test.YtegjklllnegghaaGreatDoorLY1
import Derived.Test.YtegjklllnegghaaGreatDoorLY2
import Derived.Test.YtegjklllnegghaaGreatDoorLY3
import Derived.Test.YtegjklllnegghaaGreatDoorBL
import Derived.Test.YtegjklllnegghaaGreatDoorSE
import Derived.Test.YtegjklllnegghaaGreatDoorPD
import Derived.Test.YtegjklllnegghaaGreatDoorDL
namespace Go.Proofs.YtegjklllnegghaaGreatDoor
open Go.ChangeShapes Go.WideShapes Go.ChangeAt Go.RowKit
set_option linter.unusedVariables false
set_option maxRecDepth 100000
theorem num_cZ (n : Int) (w : World) : Calls Tryz.prog 11 #[.int .i64 n] w fun e w' => e = .returned (.int .i64 n) ∧ w' = w := by
  go_enter Tryz.func11, Tryz.ntmps11
  go_wp2
  go_ret
  exact ⟨rfl, rfl⟩
theorem RowE.takeZ {w : World} {ao : Option Addr} {n c m : Nat} {L : List En} (h : RowE w (.slice ao n c) L) (hm : m ≤ L.length) (hn : n = L.length) : RowE w (.slice ao m c) (L.take m) := by
  rcases h with ⟨rfl, ao', c', e⟩ | ⟨b, off, cap, e, hc⟩
  · simp at hm; subst hm
    exact .inl ⟨rfl, ao, c, rfl⟩
  · injection e with e1 e2 e3
    subst e1; subst e3
    refine .inr ⟨b, off, c, by rw [List.length_take, Nat.min_eq_left hm], fun j x hx => ?_⟩
    have hj : j < m := by have := (List.getElem?_eq_some_iff.1 hx).1; rw [List.length_take] at this; omega
    rw [List.getElem?_take_of_lt hj] at hx
    exact hc j x hx
/-- what is written of a list -/
def fitL (f : Int) (L : List En) : List En := (L.take 2000).map (fitE f)
theorem fitted_c (f : Int) (hf : known f) (ao : Option Addr) (c : Nat) (L : List En) (w : World) (hv : RowE w (.slice ao L.length c) L) (hc : L.length ≤ c) (hN : L.length ≤ 1048576) (hz : ∀ x ∈ L, x.name.size ≤ 1048576) :
    Calls Tryz.prog 8 #[.int .i64 f, .slice ao L.length c] w fun e w' => ∃ ao' c', e = .returned (.slice ao' (fitL f L).length c') ∧ RowE w' (.slice ao' (fitL f L).length c') (fitL f L) ∧ Below w.heap.size w w' ∧ (ao' = none → c' = 0) := by
  have hfl : (fitL f L).length = (L.take 2000).length := by unfold fitL; rw [List.length_map]
  rw [hfl]
  unfold fitL
  by_cases hb : L.length ≤ 2000
  · have e : L.take 2000 = L := List.take_of_length_le hb
    rw [e]
    rcases hf with rfl | rfl | rfl
    · exact fitted_1a ao L.length c L w rfl hv hc hb hN hz
    · exact fitted_2a ao L.length c L w rfl hv hc hb hN hz
    · exact fitted_3a ao L.length c L w rfl hv hc hb hN hz
  · have hl : (L.take 2000).length = 2000 := by rw [List.length_take]; omega
    have hv2 := hv.takeZ (m := 2000) (by omega) rfl
    have hz2 : ∀ x ∈ L.take 2000, x.name.size ≤ 1048576 := fun x hx => hz x (List.mem_of_mem_take hx)
    rcases hf with rfl | rfl | rfl
    · exact fitted_1b ao L.length c (L.take 2000) w hl hv2 hc (by omega) hN hz2
    · exact fitted_2b ao L.length c (L.take 2000) w hl hv2 hc (by omega) hN hz2
    · exact fitted_3b ao L.length c (L.take 2000) w hl hv2 hc (by omega) hN hz2
theorem fitL_len (f : Int) (L : List En) : (fitL f L).length ≤ 2000 := by unfold fitL; rw [List.length_map, List.length_take]; omega
theorem fitL_good (f : Int) (L : List En) : goodAll ((fitL f L).map En.name) = true := by
  unfold goodAll
  rw [List.all_eq_true]
  intro s hs
  obtain ⟨x, hx, rfl⟩ := List.mem_map.1 hs
  unfold fitL at hx
  obtain ⟨y, hy, rfl⟩ := List.mem_map.1 hx
  exact gdN_good y.name
theorem fitL_pl (f : Int) (L : List En) : ∀ x ∈ fitL f L, 0 ≤ x.pl ∧ x.pl < 9223372036854775808 ∧ (¬ f = 2 → x.pl < 4294967296) := by
  intro x hx
  unfold fitL at hx
  obtain ⟨y, hy, rfl⟩ := List.mem_map.1 hx
  show 0 ≤ fitP f y.pl ∧ fitP f y.pl < _ ∧ (¬ f = 2 → fitP f y.pl < _)
  unfold fitP
  split <;> omega
theorem tot_gd (l : List En) (f : Int) : totN ((l.map (fitE f)).map En.name) ≤ totN (l.map En.name) + l.length := by
  induction l with
  | nil => simp [totN]
  | cons x r ih =>
    simp only [List.map_cons, totN, List.length_cons]
    have : (fitE f x).name.size ≤ x.name.size + 1 := gdN_size x.name
    omega
theorem fitL_tot (f : Int) (L : List En) (h : totN (L.map En.name) ≤ 1048576) : totN ((fitL f L).map En.name) ≤ 1050576 := by
  have h1 := tot_gd (L.take 2000) f
  have h2 : totN ((L.take 2000).map En.name) ≤ totN (L.map En.name) := by rw [List.map_take]; exact totN_takeK _ _
  have h3 : (L.take 2000).length ≤ 2000 := by rw [List.length_take]; omega
  unfold fitL; omega
theorem enc_ok (f : Int) (hf : known f) (v : Value) (L : List En) (w : World) (hv : RowE w v L) (hL : L.length ≤ 2000) (hT : totN (L.map En.name) ≤ 2147483648) (hg : goodAll (L.map En.name) = true) (hp : ∀ x ∈ L, 0 ≤ x.pl ∧ x.pl < 9223372036854775808 ∧ (¬ f = 2 → x.pl < 4294967296)) :
    Calls Tryz.prog 9 #[.int .i64 f, v] w fun e w' => e = .returned (.tuple #[.string ⟨(encB f L).toArray⟩, .int .i64 0]) ∧ Below w.heap.size w w' := by
  rcases hf with rfl | rfl | rfl
  · have e : encB 1 L = encB1 L := by unfold encB; rw [if_pos rfl]
    rw [e]; exact enc1_ok v L w hv hL hT hg fun x hx => ⟨(hp x hx).1, (hp x hx).2.2 (by omega)⟩
  · have e : encB 2 L = encB2 L := by unfold encB; rw [if_neg (by omega), if_pos rfl]
    rw [e]; exact enc2_ok v L w hv hL hT hg fun x hx => ⟨(hp x hx).1, (hp x hx).2.1⟩
  · have e : encB 3 L = encB3 L := by unfold encB; rw [if_neg (by omega), if_neg (by omega)]
    rw [e]; exact enc3_ok v L w hv hL hT hg fun x hx => ⟨(hp x hx).1, (hp x hx).2.2 (by omega)⟩
theorem back_ok (f : Int) (hf : known f) (L : List En) (hL : L.length ≤ 2000) (hT : totN (L.map En.name) ≤ 2147483648) (hg : goodAll (L.map En.name) = true) (hp : ∀ x ∈ L, 0 ≤ x.pl ∧ x.pl < 9223372036854775808 ∧ (¬ f = 2 → x.pl < 4294967296)) : decA f (encB f L) = some L := by
  rcases hf with rfl | rfl | rfl
  · have e : encB 1 L = encB1 L := by unfold encB; rw [if_pos rfl]
    rw [e]; exact back1 L hL hg fun x hx => ⟨(hp x hx).1, (hp x hx).2.2 (by omega)⟩
  · have e : encB 2 L = encB2 L := by unfold encB; rw [if_neg (by omega), if_pos rfl]
    rw [e]; exact back2 L hL hg fun x hx => ⟨(hp x hx).1, (hp x hx).2.1⟩
  · have e : encB 3 L = encB3 L := by unfold encB; rw [if_neg (by omega), if_neg (by omega)]
    rw [e]; exact back3 L hL hT hg fun x hx => ⟨(hp x hx).1, (hp x hx).2.2 (by omega)⟩
theorem nm_le (L : List En) : ∀ x ∈ L, x.name.size ≤ totN (L.map En.name) := by
  induction L with
  | nil => intro x hx; simp at hx
  | cons y r ih =>
    intro x hx
    simp only [List.map_cons, totN]
    rcases List.mem_cons.1 hx with rfl | h
    · omega
    · have := ih x h; omega
end Go.Proofs.YtegjklllnegghaaGreatDoor
