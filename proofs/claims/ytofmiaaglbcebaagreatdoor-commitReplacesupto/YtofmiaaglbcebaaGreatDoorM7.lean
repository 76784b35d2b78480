import Derived.Test.YtofmiaaglbcebaaGreatDoorRAz
import Derived.Test.YtofmiaaglbcebaaGreatDoorARz
import Derived.Test.YtofmiaaglbcebaaGreatDoorR6z
import Derived.Test.YtofmiaaglbcebaaGreatDoorR7z
import Derived.Test.YtofmiaaglbcebaaGreatDoorU15z

-- Both volumes apart, errors' own variable, and a set of blocks beside them.
namespace Go.Proofs.YtofmiaaglbcebaaGreatDoor
open Go.RowKit
set_option linter.unusedVariables false
set_option maxRecDepth 100000
variable {PS : (Nat → Prop) → Nat → St → World → Prop}
/-- The program's volume at v, the document's at u, both behind B, no block in both; S: blocks of neither; the document's blocks are below L. -/
def Bs (PS : (Nat → Prop) → Nat → St → World → Prop) (B q r : Nat) (v u : Vs) (S : Nat → Prop) (L : Nat) (w : World) : Prop :=
  ∃ G H, PV PS G q v w ∧ RV H r u w ∧ (∀ k, G k → ¬ H k) ∧ (∀ k, G k → B ≤ k) ∧ (∀ k, H k → B ≤ k) ∧ (∀ k, S k → ¬ G k ∧ ¬ H k ∧ k < w.heap.size) ∧ (∀ k, H k → k < L) ∧ ErrT w ∧ 0 < B ∧ B ≤ w.heap.size
section
variable {B q r L : Nat} {v v' u u' : Vs} {S S' : Nat → Prop} {w w' : World}
theorem Bs.grow (C : PC PS) (h : Bs PS B q r v u S L w) (hb : Below w.heap.size w w') : Bs PS B q r v u (fun k => S k ∨ (w.heap.size ≤ k ∧ k < w'.heap.size)) L w' := by
  obtain ⟨G, H, h1, h2, h3, h4, h5, h6, h7, h8, h9, hB⟩ := h
  have hs := hb.size
  refine ⟨G, H, h1.below C hb, h2.below hb, h3, h4, h5, fun k hk => ?_, h7, h8.below hb (by omega), h9, by omega⟩
  rcases hk with hk | ⟨k1, k2⟩
  · obtain ⟨a, b, c⟩ := h6 k hk; exact ⟨a, b, by omega⟩
  · exact ⟨fun hg => by have := h1.low k hg; omega, fun hg => by have := h2.low k hg; omega, k2⟩
theorem Bs.sub (h : Bs PS B q r v u S L w) (hs : ∀ k, S' k → S k) : Bs PS B q r v u S' L w := by
  obtain ⟨G, H, h1, h2, h3, h4, h5, h6, h7, h8, h9, hB⟩ := h
  exact ⟨G, H, h1, h2, h3, h4, h5, fun k hk => h6 k (hs k hk), h7, h8, h9, hB⟩
theorem Bs.below (C : PC PS) (h : Bs PS B q r v u S L w) (hb : Below w.heap.size w w') : Bs PS B q r v u S L w' := (h.grow C hb).sub fun k hk => .inl hk
/-- Blocks of S written: nothing of the volumes turns. -/
theorem Bs.over (C : PC PS) (h : Bs PS B q r v u S L w) (hsz : w.heap.size ≤ w'.heap.size) (hk : ∀ k, k < w.heap.size → ¬ S k → w'.heap[k]? = w.heap[k]?) (hl : ∀ k, S k → B ≤ k) : Bs PS B q r v u S L w' := by
  obtain ⟨G, H, h1, h2, h3, h4, h5, h6, h7, h8, h9, hB⟩ := h
  refine ⟨G, H, h1.same C hsz (fun k a b => hk k b (fun hs => (h6 k hs).1 a)), h2.same hsz (fun k a b => hk k b (fun hs => (h6 k hs).2.1 a)), h3, h4, h5, fun k hs => by obtain ⟨a, b, c⟩ := h6 k hs; exact ⟨a, b, by omega⟩, h7, ?_, h9, by omega⟩
  unfold ErrT at h8 ⊢
  rw [World.cell?_of_block (a := ⟨0, 0, none⟩) (hk 0 (by omega) (fun hs => by have := hl _ hs; omega))]; exact h8
theorem Bs.low (h : Bs PS B q r v u S L w) : B ≤ w.heap.size := by
  obtain ⟨G, H, h1, h2, h3, h4, h5, h6, h7, h8, h9, hB⟩ := h
  exact hB
theorem Bs.lt (h : Bs PS B q r v u S L w) {k : Nat} (hk : S k) : k < w.heap.size := by
  obtain ⟨G, H, h1, h2, h3, h4, h5, h6, h7, h8, h9, hB⟩ := h
  exact (h6 k hk).2.2
theorem Bs.err (h : Bs PS B q r v u S L w) : ErrT w ∧ 0 < B := by
  obtain ⟨G, H, h1, h2, h3, h4, h5, h6, h7, h8, h9, hB⟩ := h
  exact ⟨h8, h9⟩
/-- What a call keeps besides. -/
structure Beside (B : Nat) (S : Nat → Prop) (w w' : World) : Prop where
  below : Below B w w'
  set : ∀ k, S k → w'.heap[k]? = w.heap[k]?
theorem Beside.trans {w'' : World} (h : Beside B S w w') (h' : Beside B S w' w'') : Beside B S w w'' := ⟨h.below.trans h'.below, fun k hk => (h'.set k hk).trans (h.set k hk)⟩
theorem Beside.refl (B : Nat) (S : Nat → Prop) (w : World) : Beside B S w w := ⟨Below.refl _ _, fun _ _ => rfl⟩
theorem Beside.of (hb : Below w.heap.size w w') (hB : B ≤ w.heap.size) (hs : ∀ k, S k → k < w.heap.size) : Beside B S w w' := ⟨hb.mono hB, fun k hk => hb.block k (hs k hk)⟩
theorem Beside.sub (h : Beside B S w w') (hs : ∀ k, S' k → S k) : Beside B S' w w' := ⟨h.below, fun k hk => h.set k (hs k hk)⟩
theorem Bs.prog {G H G' : Nat → Prop} (h2 : RV H r u w) (h3 : ∀ k, G k → ¬ H k) (h4 : ∀ k, G k → B ≤ k) (h5 : ∀ k, H k → B ≤ k) (h6 : ∀ k, S k → ¬ G k ∧ ¬ H k ∧ k < w.heap.size) (h8 : ErrT w) (h9 : 0 < B) (hB : B ≤ w.heap.size) (d : Bh PS G q v' w G' w') : Bs PS B q r v' u S w.heap.size w' ∧ Beside B S w w' := by
  have hb := d.kept.below h4 hB
  have hlow := h2.low
  have hsz := d.kept.size
  refine ⟨⟨G', H, d.vol, h2.same d.kept.size (fun k hk hl => d.kept.block k hl (fun hg => h3 k hg hk)), fun k hk hh => ?_, fun k hk => ?_, h5, fun k hk => ?_, hlow, h8.below hb h9, h9, by omega⟩, hb, fun k hk => d.kept.block k (h6 k hk).2.2 (h6 k hk).1⟩
  · rcases d.sub k hk with h' | h'
    · exact h3 k h' hh
    · have := hlow k hh; omega
  · rcases d.sub k hk with h' | h'
    · exact h4 k h'
    · omega
  · obtain ⟨a, b, c⟩ := h6 k hk
    refine ⟨fun hg => ?_, b, by omega⟩
    rcases d.sub k hg with h' | h'
    · exact a h'
    · omega
theorem Bs.doc (C : PC PS) {G H H' : Nat → Prop} (h1 : PV PS G q v w) (h3 : ∀ k, G k → ¬ H k) (h4 : ∀ k, G k → B ≤ k) (h5 : ∀ k, H k → B ≤ k) (h6 : ∀ k, S k → ¬ G k ∧ ¬ H k ∧ k < w.heap.size) (h7 : ∀ k, H k → k < L) (h8 : ErrT w) (h9 : 0 < B) (hB : B ≤ w.heap.size) (d : Rb H r u' w H' w') : Bs PS B q r v u' S w'.heap.size w' ∧ Beside B S w w' ∧ ∀ op nm e ev, ErrIs w L op nm e ev → ErrIs w' L op nm e ev := by
  have hb := d.kept.below h5 hB
  have hlow := h1.low
  have hsz := d.kept.size
  refine ⟨⟨G, H', h1.same C d.kept.size (fun k hk hl => d.kept.block k hl (fun hg => h3 k hk hg)), d.vol, fun k hk hh => ?_, h4, fun k hk => ?_, fun k hk => ?_, d.vol.low, h8.below hb h9, h9, by omega⟩, ⟨hb, fun k hk => d.kept.block k (h6 k hk).2.2 (h6 k hk).2.1⟩, fun op nm e ev he => he.kept d.kept h7⟩
  · rcases d.sub k hh with h' | h'
    · exact h3 k hk h'
    · have := hlow k hk; omega
  · rcases d.sub k hk with h' | h'
    · exact h5 k h'
    · omega
  · obtain ⟨a, b, c⟩ := h6 k hk
    refine ⟨a, fun hg => ?_, by omega⟩
    rcases d.sub k hg with h' | h'
    · exact b h'
    · omega
end
end Go.Proofs.YtofmiaaglbcebaaGreatDoor

-- The calls on both volumes.
namespace Go.Proofs.YtofmiaaglbcebaaGreatDoor
open Go.RowKit
set_option linter.unusedVariables false
set_option maxRecDepth 100000
variable {PS : (Nat → Prop) → Nat → St → World → Prop}
theorem Bs.vdid {B q r L : Nat} {v v' u : Vs} {S : Nat → Prop} {w w' : World} {G H : Nat → Prop} (h1 : PV PS G q v w) (h2 : RV H r u w) (h3 : ∀ k, G k → ¬ H k) (h4 : ∀ k, G k → B ≤ k) (h5 : ∀ k, H k → B ≤ k) (h6 : ∀ k, S k → ¬ G k ∧ ¬ H k ∧ k < w.heap.size) (h8 : ErrT w) (h9 : 0 < B) (hB : B ≤ w.heap.size) (d : VDid PS G q v' w w') : Bs PS B q r v' u S w.heap.size w' ∧ Beside B S w w' :=
  Bs.prog h2 h3 h4 h5 h6 h8 h9 hB ((Bh.refl h1).did d)
theorem Bs.rdid (C : PC PS) {B q r L : Nat} {v u u' : Vs} {S : Nat → Prop} {w w' : World} {G H : Nat → Prop} (h1 : PV PS G q v w) (h2 : RV H r u w) (h3 : ∀ k, G k → ¬ H k) (h4 : ∀ k, G k → B ≤ k) (h5 : ∀ k, H k → B ≤ k) (h6 : ∀ k, S k → ¬ G k ∧ ¬ H k ∧ k < w.heap.size) (h7 : ∀ k, H k → k < L) (h8 : ErrT w) (h9 : 0 < B) (hB : B ≤ w.heap.size) (d : RDid H r u' w w') : Bs PS B q r v u' S w'.heap.size w' ∧ Beside B S w w' ∧ ∀ op nm e ev, ErrIs w L op nm e ev → ErrIs w' L op nm e ev :=
  Bs.doc C h1 h3 h4 h5 h6 h7 h8 h9 hB ((Rb.refl h2).did d)
theorem bs_read (C : PC PS) (B q r : Nat) (v u : Vs) (S : Nat → Prop) (L : Nat) (nm : ByteArray) (w : World) (h : Bs PS B q r v u S L w) (hw : Wf v.st) (hn : v.cnt ≤ 4194304) :
    Calls Tryz.prog 25 #[.pointer (some ⟨q, 0, none⟩), .string nm] w fun e w' => ∃ ev, e = .returned (.tuple #[.string (v.read nm).1.1, ev]) ∧ ErrIs w' w.heap.size ⟨#[114, 101, 97, 100]⟩ nm (v.read nm).1.2 ev ∧ Bs PS B q r (v.read nm).2 u S w.heap.size w' ∧ Beside B S w w' := by
  obtain ⟨G, H, h1, h2, h3, h4, h5, h6, h7, h8, h9, hB⟩ := h
  refine (fRead_c C G q v nm w h1 hw hn).mono ?_
  rintro e w' ⟨ev, rfl, he, hd⟩
  exact ⟨ev, rfl, he, Bs.vdid (L := L) h1 h2 h3 h4 h5 h6 h8 h9 hB hd⟩
theorem bs_rread (C : PC PS) (B q r : Nat) (v u : Vs) (S : Nat → Prop) (L : Nat) (nm : ByteArray) (w : World) (h : Bs PS B q r v u S L w) (hw : Wf u.st) (hn : u.cnt ≤ 4194304) :
    Calls Tryz.prog 26 #[.pointer (some ⟨r, 0, none⟩), .string nm] w fun e w' => e = .returned (.tuple #[.string (u.read nm).1.1, .int .i64 (u.read nm).1.2]) ∧ Bs PS B q r v (u.read nm).2 S w'.heap.size w' ∧ Beside B S w w' ∧ ∀ op nm e ev, ErrIs w L op nm e ev → ErrIs w' L op nm e ev := by
  obtain ⟨G, H, h1, h2, h3, h4, h5, h6, h7, h8, h9, hB⟩ := h
  refine (rRead_c H r u nm w h2 hw hn).mono ?_
  rintro e w' ⟨rfl, hd⟩
  exact ⟨rfl, Bs.rdid C h1 h2 h3 h4 h5 h6 h7 h8 h9 hB hd⟩
theorem bs_stat (C : PC PS) (B q r : Nat) (v u : Vs) (S : Nat → Prop) (L : Nat) (nm : ByteArray) (w : World) (h : Bs PS B q r v u S L w) (hw : Wf v.st) (hn : v.cnt ≤ 4194304) :
    Calls Tryz.prog 27 #[.pointer (some ⟨q, 0, none⟩), .string nm] w fun e w' => ∃ ev, e = .returned (.tuple #[.agg (stV v nm), ev]) ∧ ErrIs w' w.heap.size ⟨#[115, 116, 97, 116]⟩ nm (v.stat nm).1.2 ev ∧ Bs PS B q r (v.stat nm).2 u S w.heap.size w' ∧ Beside B S w w' := by
  obtain ⟨G, H, h1, h2, h3, h4, h5, h6, h7, h8, h9, hB⟩ := h
  refine (fStat_c C G q v nm w h1 hw hn).mono ?_
  rintro e w' ⟨ev, rfl, he, hd⟩
  exact ⟨ev, rfl, he, Bs.vdid (L := L) h1 h2 h3 h4 h5 h6 h8 h9 hB hd⟩
theorem bs_rstat (C : PC PS) (B q r : Nat) (v u : Vs) (S : Nat → Prop) (L : Nat) (nm : ByteArray) (w : World) (h : Bs PS B q r v u S L w) (hw : Wf u.st) (hn : u.cnt ≤ 4194304) :
    Calls Tryz.prog 28 #[.pointer (some ⟨r, 0, none⟩), .string nm] w fun e w' => e = .returned (.tuple #[.agg (stV u nm), .int .i64 (u.stat nm).1.2]) ∧ Bs PS B q r v (u.stat nm).2 S w'.heap.size w' ∧ Beside B S w w' ∧ ∀ op nm e ev, ErrIs w L op nm e ev → ErrIs w' L op nm e ev := by
  obtain ⟨G, H, h1, h2, h3, h4, h5, h6, h7, h8, h9, hB⟩ := h
  refine (rStat_c H r u nm w h2 hw hn).mono ?_
  rintro e w' ⟨rfl, hd⟩
  exact ⟨rfl, Bs.rdid C h1 h2 h3 h4 h5 h6 h7 h8 h9 hB hd⟩
theorem bs_list (C : PC PS) (B q r : Nat) (v u : Vs) (S : Nat → Prop) (L : Nat)  (w : World) (h : Bs PS B q r v u S L w) (hw : Wf v.st) (hn : v.cnt ≤ 4194304) :
    Calls Tryz.prog 29 #[.pointer (some ⟨q, 0, none⟩)] w fun e w' => ∃ x ev, e = .returned (.tuple #[x, ev]) ∧ w'.ownsRow w.heap.size 9 1 x v.list.1.1.length (strV v.list.1.1) ∧ ErrIs w' w.heap.size ⟨#[108, 105, 115, 116]⟩ ⟨#[]⟩ v.list.1.2 ev ∧ Bs PS B q r v.list.2 u S w.heap.size w' ∧ Beside B S w w' := by
  obtain ⟨G, H, h1, h2, h3, h4, h5, h6, h7, h8, h9, hB⟩ := h
  refine (fList_c C G q v w h1 hw hn).mono ?_
  rintro e w' ⟨x, ev, rfl, hx, he, hd⟩
  exact ⟨x, ev, rfl, hx, he, Bs.vdid (L := L) h1 h2 h3 h4 h5 h6 h8 h9 hB hd⟩
theorem bs_rlist (C : PC PS) (B q r : Nat) (v u : Vs) (S : Nat → Prop) (L : Nat) (w : World) (h : Bs PS B q r v u S L w) (hw : Wf u.st) (hn : u.cnt ≤ 4194304) :
    Calls Tryz.prog 30 #[.pointer (some ⟨r, 0, none⟩)] w fun e w' => (∃ x, e = .returned (.tuple #[x, .int .i64 u.list.1.2]) ∧ w'.ownsRow w.heap.size 9 1 x u.list.1.1.length (strV u.list.1.1)) ∧ (∀ x n l, w.ownsRow L 9 1 x n l → w'.ownsRow L 9 1 x n l) ∧ Bs PS B q r v u.list.2 S w'.heap.size w' ∧ Beside B S w w' ∧ ∀ op nm e ev, ErrIs w L op nm e ev → ErrIs w' L op nm e ev := by
  obtain ⟨G, H, h1, h2, h3, h4, h5, h6, h7, h8, h9, hB⟩ := h
  refine (rList_c H r u w h2 hw hn).mono ?_
  rintro e w' ⟨hx, hd⟩
  refine ⟨hx, fun x n l ho => own_keep ho fun k hk => hd.2.block k (ho.lt k hk).2 (fun h' => ?_), Bs.rdid C h1 h2 h3 h4 h5 h6 h7 h8 h9 hB hd⟩
  have := h7 k h'; have := (ho.lt k hk).1; omega
theorem bs_sd (C : PC PS) (B q r : Nat) (v u : Vs) (S : Nat → Prop) (L : Nat)  (w : World) (h : Bs PS B q r v u S L w) (hw : Wf v.st) (hn : v.cnt ≤ 4194304) :
    Calls Tryz.prog 42 #[.pointer (some ⟨q, 0, none⟩)] w fun e w' => ∃ ev, e = .returned ev ∧ ErrIs w' w.heap.size ⟨#[115, 121, 110, 99, 100, 105, 114]⟩ ⟨#[]⟩ v.syncDir.1 ev ∧ Bs PS B q r v.syncDir.2 u S w.heap.size w' ∧ Beside B S w w' := by
  obtain ⟨G, H, h1, h2, h3, h4, h5, h6, h7, h8, h9, hB⟩ := h
  refine (fSyncDir_c C G q v w h1 hw hn).mono ?_
  rintro e w' ⟨ev, rfl, he, hd⟩
  exact ⟨ev, rfl, he, Bs.vdid (L := L) h1 h2 h3 h4 h5 h6 h8 h9 hB hd⟩
theorem bs_rsd (C : PC PS) (B q r : Nat) (v u : Vs) (S : Nat → Prop) (L : Nat)  (w : World) (h : Bs PS B q r v u S L w) (hw : Wf u.st) (hn : u.cnt ≤ 4194304) :
    Calls Tryz.prog 46 #[.pointer (some ⟨r, 0, none⟩)] w fun e w' => e = .returned (.int .i64 u.syncDir.1) ∧ Bs PS B q r v u.syncDir.2 S w'.heap.size w' ∧ Beside B S w w' ∧ ∀ op nm e ev, ErrIs w L op nm e ev → ErrIs w' L op nm e ev := by
  obtain ⟨G, H, h1, h2, h3, h4, h5, h6, h7, h8, h9, hB⟩ := h
  refine (rSyncDir_c H r u w h2 hw hn).mono ?_
  rintro e w' ⟨rfl, hd⟩
  exact ⟨rfl, Bs.rdid C h1 h2 h3 h4 h5 h6 h7 h8 h9 hB hd⟩
theorem bs_arm (C : PC PS) (B q r : Nat) (v u : Vs) (S : Nat → Prop) (L : Nat) (plan : List Flt) (pv : Value) (w : World) (h : Bs PS B q r v u S L w) (hp : RowP w pv plan) (hpf : plan ≠ [] → ∀ k, pv.ownBlock = some k → k < B ∨ S k) (hl : plan.length ≤ 4194304) :
    Calls Tryz.prog 11 #[.pointer (some ⟨q, 0, none⟩), pv] w fun e w' => e = .returned (.tuple #[]) ∧ Bs PS B q r (v.arm plan) u S w.heap.size w' ∧ Beside B S w w' := by
  obtain ⟨G, H, h1, h2, h3, h4, h5, h6, h7, h8, h9, hB⟩ := h
  refine (fArm_c C G q v plan pv w h1 hp (fun hne k hk hg => by
    rcases hpf hne k hk with h' | h'
    · have := h4 k hg; omega
    · exact (h6 k h').1 hg) hl).mono ?_
  rintro e w' ⟨rfl, hd⟩
  exact ⟨rfl, Bs.vdid (L := L) h1 h2 h3 h4 h5 h6 h8 h9 hB hd⟩
theorem bs_rarm (C : PC PS) (B q r : Nat) (v u : Vs) (S : Nat → Prop) (L : Nat) (plan : List Flt) (pv : Value) (w : World) (h : Bs PS B q r v u S L w) (hp : RowP w pv plan) (hl : plan.length ≤ 4194304) :
    Calls Tryz.prog 12 #[.pointer (some ⟨r, 0, none⟩), pv] w fun e w' => e = .returned (.tuple #[]) ∧ Bs PS B q r v (u.arm plan) S w'.heap.size w' ∧ Beside B S w w' ∧ ∀ op nm e ev, ErrIs w L op nm e ev → ErrIs w' L op nm e ev := by
  obtain ⟨G, H, h1, h2, h3, h4, h5, h6, h7, h8, h9, hB⟩ := h
  refine (rArm_c H r u plan pv w h2 hp hl).mono ?_
  rintro e w' ⟨rfl, hd⟩
  exact ⟨rfl, Bs.rdid C h1 h2 h3 h4 h5 h6 h7 h8 h9 hB hd⟩
theorem bs_rst (C : PC PS) (B q r : Nat) (v u : Vs) (S : Nat → Prop) (L : Nat) (n : Int) (cv : Value) (cuts : List Int) (w : World) (h : Bs PS B q r v u S L w) (hw : Wf v.st) (hr : v.round ≤ 4194304) (hc : RowI w cv cuts) (hcf : cuts ≠ [] → ∀ k, cv.ownBlock = some k → k < B ∨ S k) (hcl : cuts.length ≤ 4194304) :
    Calls Tryz.prog 13 #[.pointer (some ⟨q, 0, none⟩), .int .i64 n, cv] w fun e w' => e = .returned (.tuple #[]) ∧ Bs PS B q r (v.restart n cuts) u S w.heap.size w' ∧ Beside B S w w' := by
  obtain ⟨G, H, h1, h2, h3, h4, h5, h6, h7, h8, h9, hB⟩ := h
  refine (fRestart_c C G q v n cv cuts w h1 hw hr hc (fun hne k hk hg => by
    rcases hcf hne k hk with h' | h'
    · have := h4 k hg; omega
    · exact (h6 k h').1 hg) hcl).mono ?_
  rintro e w' ⟨rfl, hd⟩
  exact ⟨rfl, Bs.vdid (L := L) h1 h2 h3 h4 h5 h6 h8 h9 hB hd⟩
theorem bs_rrst (C : PC PS) (B q r : Nat) (v u : Vs) (S : Nat → Prop) (L : Nat) (n : Int) (cv : Value) (cuts : List Int) (w : World) (h : Bs PS B q r v u S L w) (hw : Wf u.st) (hr : u.round ≤ 4194304) (hc : RowI w cv cuts) (hcf : cuts ≠ [] → ∀ k, cv.ownBlock = some k → k < B ∨ S k) (hcl : cuts.length ≤ 4194304) :
    Calls Tryz.prog 14 #[.pointer (some ⟨r, 0, none⟩), .int .i64 n, cv] w fun e w' => e = .returned (.tuple #[]) ∧ Bs PS B q r v (u.restart n cuts) S w'.heap.size w' ∧ Beside B S w w' ∧ ∀ op nm e ev, ErrIs w L op nm e ev → ErrIs w' L op nm e ev := by
  obtain ⟨G, H, h1, h2, h3, h4, h5, h6, h7, h8, h9, hB⟩ := h
  refine (rRestart_c H r u n cv cuts w h2 hw hr hc (fun hne k hk hg => by
    rcases hcf hne k hk with h' | h'
    · have := h5 k hg; omega
    · exact (h6 k h').2.1 hg) hcl).mono ?_
  rintro e w' ⟨rfl, hd⟩
  exact ⟨rfl, Bs.rdid C h1 h2 h3 h4 h5 h6 h7 h8 h9 hB hd⟩
theorem bs_calls (C : PC PS) (B q r : Nat) (v u : Vs) (S : Nat → Prop) (L : Nat) (w : World) (h : Bs PS B q r v u S L w) : Calls Tryz.prog 32 #[.pointer (some ⟨q, 0, none⟩)] w fun e w' => e = .returned (.int .i64 v.cnt) ∧ w' = w := by
  obtain ⟨G, H, h1, h2, h3, h4, h5, h6, h7, h8, h9, hB⟩ := h
  exact fCalls_c G q v w h1
theorem bs_rcalls (C : PC PS) (B q r : Nat) (v u : Vs) (S : Nat → Prop) (L : Nat) (w : World) (h : Bs PS B q r v u S L w) : Calls Tryz.prog 33 #[.pointer (some ⟨r, 0, none⟩)] w fun e w' => e = .returned (.int .i64 u.cnt) ∧ w' = w := by
  obtain ⟨G, H, h1, h2, h3, h4, h5, h6, h7, h8, h9, hB⟩ := h
  exact rCalls_c H r u w h2
theorem bs_down (C : PC PS) (B q r : Nat) (v u : Vs) (S : Nat → Prop) (L : Nat) (w : World) (h : Bs PS B q r v u S L w) : Calls Tryz.prog 34 #[.pointer (some ⟨q, 0, none⟩)] w fun e w' => e = .returned (.bool v.off) ∧ w' = w := by
  obtain ⟨G, H, h1, h2, h3, h4, h5, h6, h7, h8, h9, hB⟩ := h
  exact fDown_c G q v w h1
theorem bs_rdown (C : PC PS) (B q r : Nat) (v u : Vs) (S : Nat → Prop) (L : Nat) (w : World) (h : Bs PS B q r v u S L w) : Calls Tryz.prog 35 #[.pointer (some ⟨r, 0, none⟩)] w fun e w' => e = .returned (.bool u.off) ∧ w' = w := by
  obtain ⟨G, H, h1, h2, h3, h4, h5, h6, h7, h8, h9, hB⟩ := h
  exact rDown_c H r u w h2
theorem bs_create (C : PC PS) (B q r : Nat) (v u : Vs) (S : Nat → Prop) (L : Nat) (nm : ByteArray) (m0 m1 m2 m3 : Int) (w : World) (h : Bs PS B q r v u S L w) (hw : Wf v.st) (hn : v.cnt ≤ 4194304) :
    Calls Tryz.prog 39 #[.pointer (some ⟨q, 0, none⟩), .string nm, .agg #[.int .i64 m0, .int .i64 m1, .int .i64 m2, .int .i64 m3]] w fun e w' => ∃ hv ev, e = .returned (.tuple #[hv, ev]) ∧ ErrIs w' w.heap.size ⟨#[99, 114, 101, 97, 116, 101]⟩ nm (v.create nm m0 m1 m2 m3).1.2 ev ∧ Beside B S w w' ∧ (((v.create nm m0 m1 m2 m3).1.2 ≠ 0 ∧ hv = .pointer none ∧ Bs PS B q r (v.create nm m0 m1 m2 m3).2 u S w.heap.size w') ∨ ((v.create nm m0 m1 m2 m3).1.2 = 0 ∧ ∃ b, hv = .pointer (some ⟨b, 0, none⟩) ∧ FileAt w' b q ⟨nm, (v.create nm m0 m1 m2 m3).1.1, v.round, false⟩ ∧ Bs PS B q r (v.create nm m0 m1 m2 m3).2 u (fun k => S k ∨ k = b) w.heap.size w')) := by
  obtain ⟨G, H, h1, h2, h3, h4, h5, h6, h7, h8, h9, hB⟩ := h
  refine (fCreate_c C G q v nm m0 m1 m2 m3 w h1 hw hn).mono ?_
  rintro e w' ⟨hv, ev, rfl, he, hk, hd⟩
  refine ⟨hv, ev, rfl, he, ?_⟩
  rcases hd with ⟨h0, rfl, hd⟩ | ⟨h0, b, G', rfl, hf, hp, hs1, hs2, hnb, hbl⟩
  · obtain ⟨a1, a2⟩ := Bs.vdid (L := L) h1 h2 h3 h4 h5 h6 h8 h9 hB (v' := (v.create nm m0 m1 m2 m3).2) ⟨hd, hk⟩
    exact ⟨a2, .inl ⟨h0, rfl, a1⟩⟩
  · obtain ⟨a1, a2⟩ := Bs.prog (q := q) (v' := (v.create nm m0 m1 m2 m3).2) h2 h3 h4 h5 h6 h8 h9 hB (Bh.turn (Bh.refl h1) hp hk (fun k hg => by
      rcases hs1 k hg with h' | h'
      · exact .inl h'
      · exact .inr h'.1) hs2)
    refine ⟨a2, .inr ⟨h0, b, rfl, hf, ?_⟩⟩
    have hbw := (Array.getElem?_eq_some_iff.1 hf).1
    have hkb := hk.below h4 hB
    have hlow := h2.low
    have hsz := hk.size
    refine ⟨G', H, hp, h2.same hk.size (fun k hk' hl => hk.block k hl (fun hg => h3 k hg hk')), fun k hg hh => ?_, fun k hg => ?_, h5, fun k hs => ?_, hlow, h8.below hkb h9, h9, by omega⟩
    · rcases hs1 k hg with h' | h'
      · exact h3 k h' hh
      · have := hlow k hh; omega
    · rcases hs1 k hg with h' | h'
      · exact h4 k h'
      · omega
    · rcases hs with hs | rfl
      · obtain ⟨b1, b2, b3⟩ := h6 k hs
        refine ⟨fun hg => ?_, b2, by omega⟩
        rcases hs1 k hg with h' | h'
        · exact b1 h'
        · omega
      · exact ⟨hnb, fun hh => by have := hlow k hh; omega, hbw⟩
theorem bs_rcreate (C : PC PS) (B q r : Nat) (v u : Vs) (S : Nat → Prop) (L : Nat) (nm : ByteArray) (m0 m1 m2 m3 : Int) (w : World) (h : Bs PS B q r v u S L w) (hw : Wf u.st) (hn : u.cnt ≤ 4194304) :
    Calls Tryz.prog 43 #[.pointer (some ⟨r, 0, none⟩), .string nm, .agg #[.int .i64 m0, .int .i64 m1, .int .i64 m2, .int .i64 m3]] w fun e w' => ∃ hv, e = .returned (.tuple #[hv, .int .i64 (u.create nm m0 m1 m2 m3).1.2]) ∧ Beside B S w w' ∧ (∀ op nm e ev, ErrIs w L op nm e ev → ErrIs w' L op nm e ev) ∧ (((u.create nm m0 m1 m2 m3).1.2 ≠ 0 ∧ hv = .pointer none ∧ Bs PS B q r v (u.create nm m0 m1 m2 m3).2 S w'.heap.size w') ∨ ((u.create nm m0 m1 m2 m3).1.2 = 0 ∧ ∃ b, hv = .pointer (some ⟨b, 0, none⟩) ∧ RFileAt w' b r ⟨nm, (u.create nm m0 m1 m2 m3).1.1, u.round, false⟩ ∧ Bs PS B q r v (u.create nm m0 m1 m2 m3).2 (fun k => S k ∨ k = b) w'.heap.size w')) := by
  obtain ⟨G, H, h1, h2, h3, h4, h5, h6, h7, h8, h9, hB⟩ := h
  refine (rCreate_c H r u nm m0 m1 m2 m3 w h2 hw hn).mono ?_
  rintro e w' ⟨hv, rfl, hk, hd⟩
  refine ⟨hv, rfl, ?_⟩
  rcases hd with ⟨h0, rfl, hd⟩ | ⟨h0, b, G', rfl, hf, hp, hs1, hs2, hnb, hbl⟩
  · obtain ⟨a1, a2, a3⟩ := Bs.rdid C h1 h2 h3 h4 h5 h6 h7 h8 h9 hB (u' := (u.create nm m0 m1 m2 m3).2) ⟨hd, hk⟩
    exact ⟨a2, a3, .inl ⟨h0, rfl, a1⟩⟩
  · obtain ⟨a1, a2, a3⟩ := Bs.doc C (r := r) (u' := (u.create nm m0 m1 m2 m3).2) h1 h3 h4 h5 h6 h7 h8 h9 hB (Rb.turn (Rb.refl h2) hp hk (fun k hg => by
      rcases hs1 k hg with h' | h'
      · exact .inl h'
      · exact .inr h'.1) hs2)
    refine ⟨a2, a3, .inr ⟨h0, b, rfl, hf, ?_⟩⟩
    have hbw := (Array.getElem?_eq_some_iff.1 hf).1
    have hkb := hk.below h5 hB
    have hlow := h1.low
    have hsz := hk.size
    refine ⟨G, G', h1.same C hk.size (fun k hk' hl => hk.block k hl (fun hg => h3 k hk' hg)), hp, fun k hg hh => ?_, h4, fun k hg => ?_, fun k hs => ?_, hp.low, h8.below hkb h9, h9, by omega⟩
    · rcases hs1 k hh with h' | h'
      · exact h3 k hg h'
      · have := hlow k hg; omega
    · rcases hs1 k hg with h' | h'
      · exact h5 k h'
      · omega
    · rcases hs with hs | rfl
      · obtain ⟨b1, b2, b3⟩ := h6 k hs
        refine ⟨b1, fun hg => ?_, by omega⟩
        rcases hs1 k hg with h' | h'
        · exact b2 h'
        · omega
      · exact ⟨fun hh => by have := hlow k hh; omega, hnb, hbw⟩
theorem bs_hwrite (C : PC PS) (B q r : Nat) (v u : Vs) (S : Nat → Prop) (L : Nat) (b : Nat) (x : Hd) (data : ByteArray) (w : World) (h : Bs PS B q r v u S L w) (hb : FileAt w b q x) (hS : S b) (hw : Wf v.st) (hn : v.cnt ≤ 4194304) (hdl : data.size ≤ 140737488355328) :
    Calls Tryz.prog 40 #[.pointer (some ⟨b, 0, none⟩), .string data] w fun e w' => ∃ ev, e = .returned (.tuple #[.int .i64 (v.write x data).1.1, ev]) ∧ ErrIs w' w.heap.size ⟨#[119, 114, 105, 116, 101]⟩ x.name (v.write x data).1.2 ev ∧ Bs PS B q r (v.write x data).2 u S w.heap.size w' ∧ Beside B S w w' := by
  obtain ⟨G, H, h1, h2, h3, h4, h5, h6, h7, h8, h9, hB⟩ := h
  refine (hWrite_c C G q v b x data w h1 hb (h6 b hS).1 hw hn hdl).mono ?_
  rintro e w' ⟨ev, rfl, he, hd⟩
  exact ⟨ev, rfl, he, Bs.vdid (L := L) h1 h2 h3 h4 h5 h6 h8 h9 hB hd⟩
theorem bs_rwrite (C : PC PS) (B q r : Nat) (v u : Vs) (S : Nat → Prop) (L : Nat) (b : Nat) (x : Hd) (data : ByteArray) (w : World) (h : Bs PS B q r v u S L w) (hb : RFileAt w b r x) (hS : S b) (hw : Wf u.st) (hn : u.cnt ≤ 4194304) (hdl : data.size ≤ 140737488355328) :
    Calls Tryz.prog 44 #[.pointer (some ⟨b, 0, none⟩), .string data] w fun e w' => e = .returned (.tuple #[.int .i64 (u.write x data).1.1, .int .i64 (u.write x data).1.2]) ∧ Bs PS B q r v (u.write x data).2 S w'.heap.size w' ∧ Beside B S w w' ∧ ∀ op nm e ev, ErrIs w L op nm e ev → ErrIs w' L op nm e ev := by
  obtain ⟨G, H, h1, h2, h3, h4, h5, h6, h7, h8, h9, hB⟩ := h
  refine (rWrite_c H r u b x data w h2 hb (h6 b hS).2.1 hw hn hdl).mono ?_
  rintro e w' ⟨rfl, hd⟩
  exact ⟨rfl, Bs.rdid C h1 h2 h3 h4 h5 h6 h7 h8 h9 hB hd⟩
theorem bs_hsync (C : PC PS) (B q r : Nat) (v u : Vs) (S : Nat → Prop) (L : Nat) (b : Nat) (x : Hd) (w : World) (h : Bs PS B q r v u S L w) (hb : FileAt w b q x) (hS : S b) (hw : Wf v.st) (hn : v.cnt ≤ 4194304) :
    Calls Tryz.prog 41 #[.pointer (some ⟨b, 0, none⟩)] w fun e w' => ∃ ev, e = .returned ev ∧ ErrIs w' w.heap.size ⟨#[115, 121, 110, 99]⟩ x.name (v.sync x).1 ev ∧ Bs PS B q r (v.sync x).2 u S w.heap.size w' ∧ Beside B S w w' := by
  obtain ⟨G, H, h1, h2, h3, h4, h5, h6, h7, h8, h9, hB⟩ := h
  refine (hSync_c C G q v b x w h1 hb (h6 b hS).1 hw hn).mono ?_
  rintro e w' ⟨ev, rfl, he, hd⟩
  exact ⟨ev, rfl, he, Bs.vdid (L := L) h1 h2 h3 h4 h5 h6 h8 h9 hB hd⟩
theorem bs_rsync (C : PC PS) (B q r : Nat) (v u : Vs) (S : Nat → Prop) (L : Nat) (b : Nat) (x : Hd) (w : World) (h : Bs PS B q r v u S L w) (hb : RFileAt w b r x) (hS : S b) (hw : Wf u.st) (hn : u.cnt ≤ 4194304) :
    Calls Tryz.prog 45 #[.pointer (some ⟨b, 0, none⟩)] w fun e w' => e = .returned (.int .i64 (u.sync x).1) ∧ Bs PS B q r v (u.sync x).2 S w'.heap.size w' ∧ Beside B S w w' ∧ ∀ op nm e ev, ErrIs w L op nm e ev → ErrIs w' L op nm e ev := by
  obtain ⟨G, H, h1, h2, h3, h4, h5, h6, h7, h8, h9, hB⟩ := h
  refine (rSync_c H r u b x w h2 hb (h6 b hS).2.1 hw hn).mono ?_
  rintro e w' ⟨rfl, hd⟩
  exact ⟨rfl, Bs.rdid C h1 h2 h3 h4 h5 h6 h7 h8 h9 hB hd⟩
end Go.Proofs.YtofmiaaglbcebaaGreatDoor
