-- The program's helpers: maps made, a body given up.
import Derived.Test.YtodjgbmfmpbkjabV5
namespace Go.Proofs.Ytodjgbmfmpbkjab
open Go.RowKit
set_option linter.unusedVariables false
theorem neq_nil (w : World) : (binOp .neq 62 (.map none) (.map none)).run Try.prog w = .ok (.bool false) w := by kernel_rfl
theorem neq_some (b : Nat) (w : World) : (binOp .neq 62 (.map (some b)) (.map none)).run Try.prog w = .ok (.bool true) w := by kernel_rfl
/-- A new map into a field. -/
def mkMap (w : World) (p i : Nat) : World := (w.alloc (.map #[] 0)).setCell ⟨p, i, none⟩ (.map (some w.heap.size))
theorem mk_size (w : World) (p i : Nat) : (mkMap w p i).heap.size = w.heap.size + 1 := by simp [mkMap, World.setCell]
theorem mk_os (w : World) (p i : Nat) : (mkMap w p i).os = w.os ∧ (mkMap w p i).tape = w.tape ∧ (mkMap w p i).output = w.output := ⟨rfl, rfl, rfl⟩
theorem mk_old (w : World) (p i k : Nat) (hk : k < w.heap.size) (hp : k ≠ p) : (mkMap w p i).heap[k]? = w.heap[k]? := (Below.heap_setCell _ _ _ _ hp).trans (Lib.alloc_old w _ k hk)
theorem mk_new (w : World) (p i : Nat) (hp : p < w.heap.size) : (mkMap w p i).heap[w.heap.size]? = some (.map #[] 0) := (Below.heap_setCell _ _ _ _ (by show w.heap.size ≠ p; omega)).trans (heap_alloc_new w _)
theorem mk_p {w : World} {p : Nat} (i : Nat) {c : Array Value} {t : TypeId} {fr : Nat × Nat} (h : w.heap[p]? = some (.cells c t fr)) : (mkMap w p i).heap[p]? = some (.cells (c.setIfInBounds i (.map (some w.heap.size))) t fr) := blk_set ((Lib.alloc_old w _ p (blk_lt h)).trans h) _
theorem mk_step {w : World} {p cap made : Nat} {v2 v3 v4 v5 vp : Value} (i : Nat) (hi : 2 ≤ i ∧ i ≤ 5) (hp : w.heap[p]? = some (.cells (diskV cap made v2 v3 v4 v5 vp) 66 (0, 0))) :
    (w.alloc (.map #[] 0)).cell? ⟨p, i, none⟩ = (diskV cap made v2 v3 v4 v5 vp)[i]? ∧ (w.alloc (.map #[] 0)).frozen? ⟨p, i, none⟩ = false := by
  have h : (w.alloc (.map #[] 0)).heap[p]? = _ := (Lib.alloc_old w _ p (blk_lt hp)).trans hp
  exact ⟨Lib.cell_of_heap h i, Lib.frozen_of_heap h i⟩
theorem mk_d {w : World} {p cap made : Nat} {v2 v3 v4 v5 vp : Value} (hp : w.heap[p]? = some (.cells (diskV cap made v2 v3 v4 v5 vp) 66 (0, 0))) :
    (mkMap w p 2).heap[p]? = some (.cells (diskV cap made (.map (some w.heap.size)) v3 v4 v5 vp) 66 (0, 0)) ∧ (mkMap w p 3).heap[p]? = some (.cells (diskV cap made v2 (.map (some w.heap.size)) v4 v5 vp) 66 (0, 0)) ∧
    (mkMap w p 4).heap[p]? = some (.cells (diskV cap made v2 v3 (.map (some w.heap.size)) v5 vp) 66 (0, 0)) ∧ (mkMap w p 5).heap[p]? = some (.cells (diskV cap made v2 v3 v4 (.map (some w.heap.size)) vp) 66 (0, 0)) :=
  ⟨mk_p 2 hp, mk_p 3 hp, mk_p 4 hp, mk_p 5 hp⟩
theorem em {d : TypeDesc} {W : World} {b : Nat} (hb : W.heap[b]? = some (.map #[] 0)) : MapAt d W b [] := ⟨#[], 0, hb, MapKept.stamped_empty 0, by simp, by simp⟩
theorem mk_rn {F : Nat → Prop} {p cap made : Nat} {bs : List Bd} {w W1 W2 W3 W4 : World} {c : Array Value} {vp : Value} (hF : F p) (ho : w.ownsRow 0 77 3 vp 0 []) (hoF : ∀ k, vp.ownBlock = some k → F k) (hp : w.heap[p]? = some (.cells c 66 (0, 0)))
    (e1 : W1 = mkMap w p 2) (e2 : W2 = mkMap W1 p 3) (e3 : W3 = mkMap W2 p 4) (e4 : W4 = mkMap W3 p 5) (p4 : W4.heap[p]? = some (.cells (diskV cap made (.map (some w.heap.size)) (.map (some W1.heap.size)) (.map (some W2.heap.size)) (.map (some W3.heap.size)) vp) 66 (0, 0))) :
    (∃ bd bf bt bk vp, RN (ext F w W4) p cap made [] [] [] [] [] bs W4 bd bf bt bk vp) ∧ Kp F w W4 := by
  have hpl := blk_lt hp
  have s1 := mk_size w p 2
  have s2 := mk_size W1 p 3
  have s3 := mk_size W2 p 4
  have s4 := mk_size W3 p 5
  rw [← e1] at s1
  rw [← e2] at s2
  rw [← e3] at s3
  rw [← e4] at s4
  have o1 : ∀ k, k < w.heap.size → k ≠ p → W1.heap[k]? = w.heap[k]? := fun k hk hkp => by rw [e1]; exact mk_old _ _ _ _ hk hkp
  have o2 : ∀ k, k < W1.heap.size → k ≠ p → W2.heap[k]? = W1.heap[k]? := fun k hk hkp => by rw [e2]; exact mk_old _ _ _ _ hk hkp
  have o3 : ∀ k, k < W2.heap.size → k ≠ p → W3.heap[k]? = W2.heap[k]? := fun k hk hkp => by rw [e3]; exact mk_old _ _ _ _ hk hkp
  have o4 : ∀ k, k < W3.heap.size → k ≠ p → W4.heap[k]? = W3.heap[k]? := fun k hk hkp => by rw [e4]; exact mk_old _ _ _ _ hk hkp
  have n1 : W1.heap[w.heap.size]? = some (.map #[] 0) := by rw [e1]; exact mk_new w p 2 hpl
  have n2 : W2.heap[W1.heap.size]? = some (.map #[] 0) := by rw [e2]; exact mk_new W1 p 3 (by omega)
  have n3 : W3.heap[W2.heap.size]? = some (.map #[] 0) := by rw [e3]; exact mk_new W2 p 4 (by omega)
  have n4 : W4.heap[W3.heap.size]? = some (.map #[] 0) := by rw [e4]; exact mk_new W3 p 5 (by omega)
  have k3 : W4.heap[W2.heap.size]? = some (.map #[] 0) := by rw [o4 _ (by omega) (by omega), n3]
  have k2 : W4.heap[W1.heap.size]? = some (.map #[] 0) := by rw [o4 _ (by omega) (by omega), o3 _ (by omega) (by omega), n2]
  have k1 : W4.heap[w.heap.size]? = some (.map #[] 0) := by rw [o4 _ (by omega) (by omega), o3 _ (by omega) (by omega), o2 _ (by omega) (by omega), n1]
  have old : ∀ k, k < w.heap.size → k ≠ p → W4.heap[k]? = w.heap[k]? := fun k hk hkp => by rw [o4 _ (by omega) hkp, o3 _ (by omega) hkp, o2 _ (by omega) hkp, o1 _ hk hkp]
  have hos : W4.os = w.os ∧ W4.tape = w.tape ∧ W4.output = w.output := by
    obtain ⟨a1, a2, a3⟩ := mk_os W3 p 5
    obtain ⟨b1, b2, b3⟩ := mk_os W2 p 4
    obtain ⟨c1, c2, c3⟩ := mk_os W1 p 3
    obtain ⟨d1, d2, d3⟩ := mk_os w p 2
    rw [← e4] at a1 a2 a3
    rw [← e3] at b1 b2 b3
    rw [← e2] at c1 c2 c3
    rw [← e1] at d1 d2 d3
    exact ⟨a1.trans (b1.trans (c1.trans d1)), a2.trans (b2.trans (c2.trans d2)), a3.trans (b3.trans (c3.trans d3))⟩
  have hro : W4.ownsRow 0 77 3 vp 0 [] := own_keep ho fun k hk => by
    obtain ⟨cur, hh⟩ := own_typed ho hk
    exact old k (blk_lt hh) (fun e => typed_ne hh hp (by decide) e)
  obtain ⟨q1, hq1⟩ : ∃ q, q = w.heap.size := ⟨_, rfl⟩
  obtain ⟨q2, hq2⟩ : ∃ q, q = W1.heap.size := ⟨_, rfl⟩
  obtain ⟨q3, hq3⟩ : ∃ q, q = W2.heap.size := ⟨_, rfl⟩
  obtain ⟨q4, hq4⟩ : ∃ q, q = W3.heap.size := ⟨_, rfl⟩
  have hE : ∀ k, q1 ≤ k → k ≤ q4 → ext F w W4 k := fun k h1 h2 => .inr ⟨by omega, by omega⟩
  rw [← hq1, ← hq2, ← hq3, ← hq4] at p4
  rw [← hq1] at k1
  rw [← hq2] at k2
  rw [← hq3] at k3
  rw [← hq4] at n4
  have b1 : q1 + 1 = q2 := by omega
  have b2 : q2 + 1 = q3 := by omega
  have b3 : q3 + 1 = q4 := by omega
  refine ⟨⟨q1, q2, q3, q4, vp, ?_⟩, hos.1, hos.2.1, hos.2.2, by omega, fun k hk hFk => old k hk (fun e => hFk (e ▸ hF))⟩
  clear hq1 hq2 hq3 hq4 o1 o2 o3 o4 s1 s2 s3 s4 e1 e2 e3 e4 n1 n2 n3
  exact ⟨p4, .inl hF, hE _ (by omega) (by omega), hE _ (by omega) (by omega), hE _ (by omega) (by omega), hE _ (by omega) (by omega), by omega, by omega, by omega, by omega, by omega, by omega, em k1, em k2, em k3, em n4, hro, fun k hk => .inl (hoF k hk), ⟨by simp, by simp, by simp, by simp⟩⟩
theorem mk_run (t : TypeId) (w : World) : (Instr.makeMap t none).run Try.prog w = .ok (.map (some w.heap.size)) (w.alloc (.map #[] 0)) := rfl
set_option maxHeartbeats 4000000 in
theorem makeMaps_c (F : Nat → Prop) (p cap made : Nat) (now d0 : Dr) (cs : List Chg) (T K : List (Nat × Nat)) (bs : List Bd) (w : World) (h : Raw F p cap made now d0 cs T K bs w) :
    Calls Try.prog 25 #[.pointer (some ⟨p, 0, none⟩)] w fun e w' => e = .returned (.tuple #[]) ∧ (∃ bd bf bt bk vp, RN (ext F w w') p cap made now d0 cs T K bs w' bd bf bt bk vp) ∧ Kp F w w' := by
  obtain ⟨vd, vs, vt, vk, vp, hp, hF, hm, ho, hoF, hb, hn⟩ := h
  rcases hm with ⟨rfl, rfl, rfl, rfl, rfl, rfl, rfl, h8⟩ | ⟨bd, bf, bt, bk, rfl, rfl, rfl, rfl, f1, f2, f3, f4, n1, n2, n3, n4, n5, n6, m1, m2, m3, m4⟩
  · obtain rfl := hn rfl
    have hq := neq_nil w
    have c2 : w.cell? ⟨p, 2, none⟩ = some (.map none) := by rw [Lib.cell_of_heap hp]; rfl
    have hpl := blk_lt hp
    obtain ⟨q1, hq1⟩ : ∃ q, q = w.heap.size := ⟨_, rfl⟩
    -- the four steps
    have p1 := (mk_d hp).1
    have p2 := (mk_d p1).2.1
    have p3 := (mk_d p2).2.2.1
    have p4 := (mk_d p3).2.2.2
    have s1 := mk_size w p 2
    have s2 := mk_size (mkMap w p 2) p 3
    have s3 := mk_size (mkMap (mkMap w p 2) p 3) p 4
    have s4 := mk_size (mkMap (mkMap (mkMap w p 2) p 3) p 4) p 5
    have HR : Hid ((∃ bd bf bt bk vp, RN (ext F w (mkMap (mkMap (mkMap (mkMap w p 2) p 3) p 4) p 5)) p cap made [] [] [] [] [] bs (mkMap (mkMap (mkMap (mkMap w p 2) p 3) p 4) p 5) bd bf bt bk vp) ∧ Kp F w (mkMap (mkMap (mkMap (mkMap w p 2) p 3) p 4) p 5)) :=
      mk_rn hF ho hoF hp rfl rfl rfl rfl p4
    have g2 := mk_step 2 ⟨by omega, by omega⟩ hp
    have g3 := mk_step 3 ⟨by omega, by omega⟩ p1
    have g4 := mk_step 4 ⟨by omega, by omega⟩ p2
    have g5 := mk_step 5 ⟨by omega, by omega⟩ p3
    have r1 := mk_run 62 w
    have r2 := mk_run 62 (mkMap w p 2)
    have r3 := mk_run 63 (mkMap (mkMap w p 2) p 3)
    have r4 := mk_run 63 (mkMap (mkMap (mkMap w p 2) p 3) p 4)
    obtain ⟨W4, hW4⟩ : ∃ W, W = mkMap (mkMap (mkMap (mkMap w p 2) p 3) p 4) p 5 := ⟨_, rfl⟩
    have t4 : ((mkMap (mkMap (mkMap w p 2) p 3) p 4).alloc (.map #[] 0)).setCell ⟨p, 5, none⟩ (.map (some (mkMap (mkMap (mkMap w p 2) p 3) p 4).heap.size)) = W4 := hW4.symm
    rw [← hW4] at HR
    clear hW4 p4 s4
    obtain ⟨W3, hW3⟩ : ∃ W, W = mkMap (mkMap (mkMap w p 2) p 3) p 4 := ⟨_, rfl⟩
    have t3 : ((mkMap (mkMap w p 2) p 3).alloc (.map #[] 0)).setCell ⟨p, 4, none⟩ (.map (some (mkMap (mkMap w p 2) p 3).heap.size)) = W3 := hW3.symm
    rw [← hW3] at t4 g5 r4
    clear hW3 p3 s3
    obtain ⟨W2, hW2⟩ : ∃ W, W = mkMap (mkMap w p 2) p 3 := ⟨_, rfl⟩
    have t2 : ((mkMap w p 2).alloc (.map #[] 0)).setCell ⟨p, 3, none⟩ (.map (some (mkMap w p 2).heap.size)) = W2 := hW2.symm
    rw [← hW2] at t3 g4 g5 r3
    clear hW2 p2 s2
    obtain ⟨W1, hW1⟩ : ∃ W, W = mkMap w p 2 := ⟨_, rfl⟩
    have t1 : (w.alloc (.map #[] 0)).setCell ⟨p, 2, none⟩ (.map (some w.heap.size)) = W1 := hW1.symm
    rw [← hW1] at t2 g3 g4 g5 r2
    clear hW1 p1 s1
    simp only [diskV, List.getElem?_toArray, List.getElem?_cons_succ, List.getElem?_cons_zero] at g2 g3 g4 g5
    obtain ⟨a2, z2⟩ := g2
    obtain ⟨a3, z3⟩ := g3
    obtain ⟨a4, z4⟩ := g4
    obtain ⟨a5, z5⟩ := g5
    obtain ⟨u1, hu1⟩ : ∃ u, u = w.alloc (.map #[] 0) := ⟨_, rfl⟩
    obtain ⟨u2, hu2⟩ : ∃ u, u = W1.alloc (.map #[] 0) := ⟨_, rfl⟩
    obtain ⟨u3, hu3⟩ : ∃ u, u = W2.alloc (.map #[] 0) := ⟨_, rfl⟩
    obtain ⟨u4, hu4⟩ : ∃ u, u = W3.alloc (.map #[] 0) := ⟨_, rfl⟩
    rw [← hu1] at t1 a2 z2 r1
    rw [← hu2] at t2 a3 z3 r2
    rw [← hu3] at t3 a4 z4 r3
    rw [← hu4] at t4 a5 z5 r4
    obtain ⟨q2, hq2⟩ : ∃ q, q = W1.heap.size := ⟨_, rfl⟩
    obtain ⟨q3, hq3⟩ : ∃ q, q = W2.heap.size := ⟨_, rfl⟩
    obtain ⟨q4, hq4⟩ : ∃ q, q = W3.heap.size := ⟨_, rfl⟩
    rw [← hq1] at t1 r1
    rw [← hq2] at t2 r2
    rw [← hq3] at t3 r3
    rw [← hq4] at t4 r4
    clear hp ho hoF hb hn h8 hu1 hu2 hu3 hu4 hq1 hq2 hq3 hq4 hpl
    go_enter Try.func25, Try.ntmps25
    go_wp2
    go_end0
    exact ⟨rfl, HR.out⟩
  · have hq := neq_some bd w
    have c2 : w.cell? ⟨p, 2, none⟩ = some (.map (some bd)) := by rw [Lib.cell_of_heap hp]; rfl
    have HR : Hid (∃ bd bf bt bk vp, RN (ext F w w) p cap made now d0 cs T K bs w bd bf bt bk vp) := ⟨bd, bf, bt, bk, vp, (⟨hp, hF, f1, f2, f3, f4, n1, n2, n3, n4, n5, n6, m1, m2, m3, m4, ho, hoF, hb⟩ : RN F p cap made now d0 cs T K bs w bd bf bt bk vp).keep (fun _ _ _ => rfl) fun k hk => .inl hk⟩
    clear hp ho hoF hb hn m1 m2 m3 m4
    go_enter Try.func25, Try.ntmps25
    go_wp2
    refine bodyPost_ret (results_none rfl _ _ _) rfl ?_
    exact ⟨rfl, HR.out, Kp.refl _ _⟩
end Go.Proofs.Ytodjgbmfmpbkjab
