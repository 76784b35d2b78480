
-- One Vol, with boxes beside it that stay; one file on a new volume, plainly.
import Derived.Test.YtjbphheojfclcaaGreatZN
namespace Go.Proofs.YtjbphheojfclcaaGreat
open Go.RowKit
set_option linter.unusedVariables false
set_option maxRecDepth 100000
variable {PS : (Nat → Prop) → Nat → St → World → Prop}
/-- A Vol behind block B, and blocks rs that are not of it. -/
def OneS (PS : (Nat → Prop) → Nat → St → World → Prop) (vb : Nat) (x : Vl) (w : World) (rs : List Nat) (W : World) : Prop := ∃ S, VA PS S vb x W ∧ (∀ k, S k → w.heap.size ≤ k) ∧ (∀ r ∈ rs, ¬ S r ∧ r < W.heap.size) ∧ Below w.heap.size w W
section
variable {vb : Nat} {x : Vl} {w W W' : World} {rs : List Nat}
theorem OneS.below (C : PC PS) (h : OneS PS vb x w rs W) (hb : Below W.heap.size W W') : OneS PS vb x w rs W' := by
  obtain ⟨S, h1, h2, h3, h4⟩ := h
  exact ⟨S, h1.below C hb, h2, fun r hr => ⟨(h3 r hr).1, Nat.lt_of_lt_of_le (h3 r hr).2 hb.size⟩, h4.trans (hb.mono h4.size)⟩
theorem OneS.box (C : PC PS) (h : OneS PS vb x w rs W) (o : Obj) : OneS PS vb x w (W.heap.size :: rs) (W.alloc o) := by
  have hb : Below W.heap.size W (W.alloc o) := (Below.refl _ W).alloc (Nat.le_refl _) _
  obtain ⟨S, h1, h2, h3, h4⟩ := h
  refine ⟨S, h1.below C hb, h2, fun r hr => ?_, h4.trans (hb.mono h4.size)⟩
  rcases List.mem_cons.1 hr with rfl | hr
  · exact ⟨fun h => by have := h1.low _ h; omega, by simp⟩
  · exact ⟨(h3 r hr).1, Nat.lt_of_lt_of_le (h3 r hr).2 hb.size⟩
theorem OneS.put (C : PC PS) (h : OneS PS vb x w rs W) {r : Nat} (hr : r ∈ rs) (hw : w.heap.size ≤ r) (cs : Array Value) : OneS PS vb x w rs (W.setRow r cs) := by
  obtain ⟨S, h1, h2, h3, h4⟩ := h
  exact ⟨S, h1.same C (by simp) (fun k hk => setRow_other _ _ _ fun e => (h3 r hr).1 (e ▸ hk)), h2, fun r' hr' => ⟨(h3 r' hr').1, by simpa using (h3 r' hr').2⟩, ⟨h4.os, h4.tape, h4.output, by simpa using h4.size, fun k hk => (setRow_other _ _ _ (by omega)).trans (h4.block k hk)⟩⟩
/-- A step: the boxes stay. -/
theorem OneS.call (C : PC PS) (h : OneS PS vb x w rs W) {k : Nat} (hk : Vlf x k) (hkk : k < 2097151) (o : Opv) (ho : OkC o) (hb : Below W.heap.size W W') :
    Calls Tryz.prog 11 #[.pointer (some ⟨vb, 0, none⟩), o.v] W' fun e w' => ∃ ao c, e = .returned (.agg (ansV (x.call o.c).1 (.slice ao (x.call o.c).1.l.length c))) ∧ OneS PS vb (x.call o.c).2 w rs w' ∧ (∀ r ∈ rs, w'.heap[r]? = W'.heap[r]?) ∧ RowS w' (.slice ao (x.call o.c).1.l.length c) (x.call o.c).1.l := by
  obtain ⟨S, h1, h2, h3, h4⟩ := h.below C hb
  refine (call_c C S vb x k o W' h1 hk hkk ho.pv ho.cv ho.small).mono ?_
  rintro e w' ⟨ao, c, rfl, hd, hr⟩
  have hs := hd.2.size
  refine ⟨ao, c, rfl, ⟨ext S W' w', hd.1, fun k hk => ?_, fun r hr => ⟨fun hx => ?_, by have := (h3 r hr).2; omega⟩, h4.trans (hd.2.below (B := w.heap.size) h2 h4.size)⟩, fun r hr => hd.2.block r (h3 r hr).2 (h3 r hr).1, RowS.of_own hr⟩
  · rcases hk with hk | hk
    · exact h2 k hk
    · have := h4.size; omega
  · rcases hx with hx | hx
    · exact (h3 r hr).1 hx
    · have := (h3 r hr).2; omega
theorem OneS.len (h : OneS PS vb x w rs W) : ∃ ao c, W.cell? ⟨vb, 1, none⟩ = some (.slice ao x.hs.length c) := by
  obtain ⟨S, ⟨q, mv, G, hs, T⟩, -⟩ := h
  obtain ⟨ao, c, hm⟩ := own_shape T.row
  have hl : hs.length = x.hs.length := by rw [← T.eq, List.length_map]
  exact ⟨ao, c, by rw [T.cells.2.1, hm, hl]⟩
end
/-- One file: what is known. -/
def oneSt (cap : Nat) (name data : ByteArray) (m0 m1 m2 m3 : Int) : St := ⟨cap, [⟨m0, m1, m2, m3, data, 0⟩], [[], [(name, 1)]]⟩
def oneVl (cap cnt : Nat) (name data : ByteArray) (m0 m1 m2 m3 : Int) : Vl := ⟨⟨oneSt cap name data m0 m1 m2 m3, [], cnt, false, 0⟩, [⟨name, 1, 0, false⟩]⟩
def opm (name : ByteArray) (m0 m1 m2 m3 : Int) : Opv := ⟨4, 0, name, ⟨#[]⟩, m0, m1, m2, m3, .slice none 0 0, .slice none 0 0, [], []⟩
theorem one_at (cap : Nat) (name data : ByteArray) (m0 m1 m2 m3 : Int) : (oneSt cap name data m0 m1 m2 m3).at_ ((1 : Nat) : Int) = some ⟨m0, m1, m2, m3, data, 0⟩ := rfl
theorem one_used (cap : Nat) (name data : ByteArray) (m0 m1 m2 m3 : Int) : (oneSt cap name data m0 m1 m2 m3).used = data.size := by
  unfold St.used usedIn oneSt St.now szOf
  simp
theorem one_create (cap : Nat) (name : ByteArray) (hn : okName name = true) (m0 m1 m2 m3 : Int) : (Vl.new cap).call (opm name m0 m1 m2 m3).c = ({ an0 with n := 1 }, oneVl cap 1 name ⟨#[]⟩ m0 m1 m2 m3) := by
  have hs : (St.new cap).create name m0 m1 m2 m3 = ((1, 0), oneSt cap name ⟨#[]⟩ m0 m1 m2 m3) := by
    unfold St.create
    rw [if_neg (by rw [hn]; decide), if_neg (fun h => by have := h.2; simp [St.now, St.new] at this)]
    rfl
  have hv : (Vl.new cap).v.create name m0 m1 m2 m3 = ((1, 0), ⟨oneSt cap name ⟨#[]⟩ m0 m1 m2 m3, [], 1, false, 0⟩) := by
    show (if (Vs.met ⟨St.new cap, [], 0, false, 0⟩).1 ≠ 0 then _ else _ : (Nat × Nat) × Vs) = _
    rw [met_nil, if_neg (fun h => h rfl)]
    show (((St.new cap).create name m0 m1 m2 m3).1, Vs.on _ ((St.new cap).create name m0 m1 m2 m3).2) = _
    rw [hs]; rfl
  show (Vl.new cap).made (opm name m0 m1 m2 m3).c = _
  unfold Vl.made
  have e : (Vl.new cap).v.create (opm name m0 m1 m2 m3).c.a (opm name m0 m1 m2 m3).c.m0 (opm name m0 m1 m2 m3).c.m1 (opm name m0 m1 m2 m3).c.m2 (opm name m0 m1 m2 m3).c.m3 = (Vl.new cap).v.create name m0 m1 m2 m3 := rfl
  rw [e, hv]
  rfl
theorem bad_create (cap : Nat) (name : ByteArray) (hn : okName name = false) (m0 m1 m2 m3 : Int) : ((Vl.new cap).call (opm name m0 m1 m2 m3).c).1 = { an0 with bad := true, op := opCreate, nm := name, e := 32 } ∧ ((Vl.new cap).call (opm name m0 m1 m2 m3).c).2 = ⟨⟨St.new cap, [], 1, false, 0⟩, []⟩ := by
  have hs : (St.new cap).create name m0 m1 m2 m3 = ((0, 32), St.new cap) := by
    unfold St.create
    rw [if_pos hn]
  have hv : (Vl.new cap).v.create name m0 m1 m2 m3 = ((0, 32), ⟨St.new cap, [], 1, false, 0⟩) := by
    show (if (Vs.met ⟨St.new cap, [], 0, false, 0⟩).1 ≠ 0 then _ else _ : (Nat × Nat) × Vs) = _
    rw [met_nil, if_neg (fun h => h rfl)]
    show (((St.new cap).create name m0 m1 m2 m3).1, Vs.on _ ((St.new cap).create name m0 m1 m2 m3).2) = _
    rw [hs]; rfl
  have e1 : (Vl.new cap).call (opm name m0 m1 m2 m3).c = (Vl.new cap).made (opm name m0 m1 m2 m3).c := rfl
  have e : (Vl.new cap).v.create (opm name m0 m1 m2 m3).c.a (opm name m0 m1 m2 m3).c.m0 (opm name m0 m1 m2 m3).c.m1 (opm name m0 m1 m2 m3).c.m2 (opm name m0 m1 m2 m3).c.m3 = (Vl.new cap).v.create name m0 m1 m2 m3 := rfl
  rw [e1]
  unfold Vl.made
  rw [e, hv]
  exact ⟨rfl, rfl⟩
theorem bad_read (cap : Nat) (name : ByteArray) (hn : okName name = false) : (Vl.call ⟨⟨St.new cap, [], 1, false, 0⟩, []⟩ (opk 1 name).c).1 = { an0 with bad := true, op := opRead, nm := name, e := 32 } ∧ (Vl.call ⟨⟨St.new cap, [], 1, false, 0⟩, []⟩ (opk 1 name).c).2 = ⟨⟨St.new cap, [], 2, false, 0⟩, []⟩ := by
  have hf : (St.new cap).find name = ((⟨#[]⟩, noBd), (0, 32)) := by unfold St.find; rw [if_pos hn]
  have hv : Vs.read ⟨St.new cap, [], 1, false, 0⟩ name = ((⟨#[]⟩, 32), ⟨St.new cap, [], 2, false, 0⟩) := by
    unfold Vs.read
    rw [met_nil, if_neg (fun h => h rfl)]
    show (if ((St.new cap).find name).2.2 ≠ 0 then ((⟨#[]⟩, ((St.new cap).find name).2.2), _) else _ : (ByteArray × Nat) × Vs) = _
    rw [hf, if_pos (by decide)]; rfl
  have e : Vl.call ⟨⟨St.new cap, [], 1, false, 0⟩, []⟩ (opk 1 name).c = (({ an0 with s := (Vs.read ⟨St.new cap, [], 1, false, 0⟩ name).1.1 }).fail opRead name (Vs.read ⟨St.new cap, [], 1, false, 0⟩ name).1.2, ⟨(Vs.read ⟨St.new cap, [], 1, false, 0⟩ name).2, []⟩) := rfl
  rw [e, hv]
  exact ⟨rfl, rfl⟩
theorem one_write (cap cnt : Nat) (name data p : ByteArray) (m0 m1 m2 m3 : Int) (h : data.size + p.size ≤ cap) : (oneVl cap cnt name data m0 m1 m2 m3).call (opk 8 p).c = ({ an0 with n := p.size }, oneVl cap (cnt + 1) name (data ++ p) m0 m1 m2 m3) := by
  have hs : (oneSt cap name data m0 m1 m2 m3).append ((1 : Nat) : Int) p = (0, oneSt cap name (data ++ p) m0 m1 m2 m3) := by
    unfold St.append
    rw [one_at]
    simp only
    rw [if_neg (fun hh => by have := hh.2; rw [one_used] at this; simp only [oneSt] at this; omega)]
    rfl
  have hv : Vs.write ⟨oneSt cap name data m0 m1 m2 m3, [], cnt, false, 0⟩ ⟨name, 1, 0, false⟩ p = ((p.size, 0), ⟨oneSt cap name (data ++ p) m0 m1 m2 m3, [], cnt + 1, false, 0⟩) := by
    unfold Vs.write Vs.writeB
    have hc : Hd.closed ⟨name, 1, 0, false⟩ ⟨oneSt cap name data m0 m1 m2 m3, [], cnt, false, 0⟩ = false := rfl
    rw [hc, if_neg (by decide), met_nil]
    show (if (0 : Nat) = 0 then (if ((oneSt cap name data m0 m1 m2 m3).append ((1 : Nat) : Int) p).1 ≠ 0 then ((0, _), _) else ((p.size, 0), Vs.on _ ((oneSt cap name data m0 m1 m2 m3).append ((1 : Nat) : Int) p).2)) else _ : (Nat × Nat) × Vs) = _
    rw [if_pos rfl, hs, if_neg (fun h => h rfl)]
    rfl
  have e : (oneVl cap cnt name data m0 m1 m2 m3).call (opk 8 p).c = (({ an0 with n := (Vs.write ⟨oneSt cap name data m0 m1 m2 m3, [], cnt, false, 0⟩ ⟨name, 1, 0, false⟩ p).1.1 }).fail opWrite name (Vs.write ⟨oneSt cap name data m0 m1 m2 m3, [], cnt, false, 0⟩ ⟨name, 1, 0, false⟩ p).1.2, ⟨(Vs.write ⟨oneSt cap name data m0 m1 m2 m3, [], cnt, false, 0⟩ ⟨name, 1, 0, false⟩ p).2, [⟨name, 1, 0, false⟩]⟩) := rfl
  rw [e, hv]
  rfl
theorem one_full (cap cnt : Nat) (name data p : ByteArray) (m0 m1 m2 m3 : Int) (hp : p ≠ ⟨#[]⟩) (h : cap < data.size + p.size) : (oneVl cap cnt name data m0 m1 m2 m3).call (opk 8 p).c = ({ an0 with bad := true, op := opWrite, nm := name, e := 31 }, oneVl cap (cnt + 1) name data m0 m1 m2 m3) := by
  have hs : (oneSt cap name data m0 m1 m2 m3).append ((1 : Nat) : Int) p = (31, oneSt cap name data m0 m1 m2 m3) := by
    unfold St.append
    rw [one_at]
    simp only
    rw [if_pos ⟨hp, by rw [one_used]; simp only [oneSt]; omega⟩]
  have hv : Vs.write ⟨oneSt cap name data m0 m1 m2 m3, [], cnt, false, 0⟩ ⟨name, 1, 0, false⟩ p = ((0, 31), ⟨oneSt cap name data m0 m1 m2 m3, [], cnt + 1, false, 0⟩) := by
    unfold Vs.write Vs.writeB
    have hc : Hd.closed ⟨name, 1, 0, false⟩ ⟨oneSt cap name data m0 m1 m2 m3, [], cnt, false, 0⟩ = false := rfl
    rw [hc, if_neg (by decide), met_nil]
    show (if (0 : Nat) = 0 then (if ((oneSt cap name data m0 m1 m2 m3).append ((1 : Nat) : Int) p).1 ≠ 0 then ((0, ((oneSt cap name data m0 m1 m2 m3).append ((1 : Nat) : Int) p).1), Vs.on _ ((oneSt cap name data m0 m1 m2 m3).append ((1 : Nat) : Int) p).2) else _) else _ : (Nat × Nat) × Vs) = _
    rw [if_pos rfl, hs, if_pos (show (31 : Nat) ≠ 0 from by decide)]
    rfl
  have e : (oneVl cap cnt name data m0 m1 m2 m3).call (opk 8 p).c = (({ an0 with n := (Vs.write ⟨oneSt cap name data m0 m1 m2 m3, [], cnt, false, 0⟩ ⟨name, 1, 0, false⟩ p).1.1 }).fail opWrite name (Vs.write ⟨oneSt cap name data m0 m1 m2 m3, [], cnt, false, 0⟩ ⟨name, 1, 0, false⟩ p).1.2, ⟨(Vs.write ⟨oneSt cap name data m0 m1 m2 m3, [], cnt, false, 0⟩ ⟨name, 1, 0, false⟩ p).2, [⟨name, 1, 0, false⟩]⟩) := rfl
  rw [e, hv]
  rfl
theorem one_find (cap : Nat) (name data : ByteArray) (hn : okName name = true) (m0 m1 m2 m3 : Int) : (oneSt cap name data m0 m1 m2 m3).find name = ((name, ⟨m0, m1, m2, m3, data, 0⟩), (1, 0)) := by
  have hl : leads (oneSt cap name data m0 m1 m2 m3).now name = 1 := by
    show leads [(name, 1)] name = 1
    unfold leads
    rw [if_pos rfl]
  unfold St.find
  rw [if_neg (by rw [hn]; decide), hl, if_neg (by decide)]
  rfl
theorem one_read (cap cnt : Nat) (name data : ByteArray) (hn : okName name = true) (m0 m1 m2 m3 : Int) : (oneVl cap cnt name data m0 m1 m2 m3).call (opk 1 name).c = ({ an0 with s := data }, oneVl cap (cnt + 1) name data m0 m1 m2 m3) := by
  have hv : Vs.read ⟨oneSt cap name data m0 m1 m2 m3, [], cnt, false, 0⟩ name = ((data, 0), ⟨oneSt cap name data m0 m1 m2 m3, [], cnt + 1, false, 0⟩) := by
    unfold Vs.read
    rw [met_nil, if_neg (fun h => h rfl)]
    show (if ((oneSt cap name data m0 m1 m2 m3).find name).2.2 ≠ 0 then _ else ((oneSt cap name data m0 m1 m2 m3).read ((oneSt cap name data m0 m1 m2 m3).find name).2.1, _) : (ByteArray × Nat) × Vs) = _
    rw [one_find _ _ _ hn, if_neg (fun h => h rfl)]
    rfl
  have e : (oneVl cap cnt name data m0 m1 m2 m3).call (opk 1 name).c = (({ an0 with s := (Vs.read ⟨oneSt cap name data m0 m1 m2 m3, [], cnt, false, 0⟩ name).1.1 }).fail opRead name (Vs.read ⟨oneSt cap name data m0 m1 m2 m3, [], cnt, false, 0⟩ name).1.2, ⟨(Vs.read ⟨oneSt cap name data m0 m1 m2 m3, [], cnt, false, 0⟩ name).2, [⟨name, 1, 0, false⟩]⟩) := rfl
  rw [e, hv]
  rfl
theorem one_stat (cap cnt : Nat) (name data : ByteArray) (hn : okName name = true) (m0 m1 m2 m3 : Int) : (oneVl cap cnt name data m0 m1 m2 m3).call (opk 2 name).c = ({ an0 with i0 := m0, i1 := m1, i2 := m2, i3 := m3, iname := name, isz := data.size }, oneVl cap (cnt + 1) name data m0 m1 m2 m3) := by
  have hv : Vs.stat ⟨oneSt cap name data m0 m1 m2 m3, [], cnt, false, 0⟩ name = (((name, ⟨m0, m1, m2, m3, data, 0⟩), 0), ⟨oneSt cap name data m0 m1 m2 m3, [], cnt + 1, false, 0⟩) := by
    unfold Vs.stat
    rw [met_nil, if_neg (fun h => h rfl)]
    show ((((oneSt cap name data m0 m1 m2 m3).find name).1, ((oneSt cap name data m0 m1 m2 m3).find name).2.2), _) = _
    rw [one_find _ _ _ hn]
    rfl
  have e : (oneVl cap cnt name data m0 m1 m2 m3).call (opk 2 name).c = ((anInfo (Vs.stat ⟨oneSt cap name data m0 m1 m2 m3, [], cnt, false, 0⟩ name).1.1).fail opStat name (Vs.stat ⟨oneSt cap name data m0 m1 m2 m3, [], cnt, false, 0⟩ name).1.2, ⟨(Vs.stat ⟨oneSt cap name data m0 m1 m2 m3, [], cnt, false, 0⟩ name).2, [⟨name, 1, 0, false⟩]⟩) := rfl
  rw [e, hv]
  rfl
theorem one_list (cap cnt : Nat) (name data : ByteArray) (m0 m1 m2 m3 : Int) : (oneVl cap cnt name data m0 m1 m2 m3).call (opk 3 ⟨#[]⟩).c = ({ an0 with l := [name] }, oneVl cap (cnt + 1) name data m0 m1 m2 m3) := by
  have hv : Vs.list ⟨oneSt cap name data m0 m1 m2 m3, [], cnt, false, 0⟩ = (([name], 0), ⟨oneSt cap name data m0 m1 m2 m3, [], cnt + 1, false, 0⟩) := by
    unfold Vs.list
    rw [met_nil, if_neg (fun h => h rfl)]
    rfl
  have e : (oneVl cap cnt name data m0 m1 m2 m3).call (opk 3 ⟨#[]⟩).c = (({ an0 with l := (Vs.list ⟨oneSt cap name data m0 m1 m2 m3, [], cnt, false, 0⟩).1.1 }).fail opList ⟨#[]⟩ (Vs.list ⟨oneSt cap name data m0 m1 m2 m3, [], cnt, false, 0⟩).1.2, ⟨(Vs.list ⟨oneSt cap name data m0 m1 m2 m3, [], cnt, false, 0⟩).2, [⟨name, 1, 0, false⟩]⟩) := rfl
  rw [e, hv]
  rfl
end Go.Proofs.YtjbphheojfclcaaGreat
