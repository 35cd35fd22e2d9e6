/- Plain facts. -/
import Derived.Test.YtialdelfmmdfjaaD2
import Derived.Test.YtialdelfmmdfjaaGC
import Derived.Test.YtialdelfmmdfjaaGA
import Derived.Test.YtialdelfmmdfjaaRW
import Derived.Test.YtialdelfmmdfjaaGX
import Derived.Deep.AppendLies
/- Readers whose bytes lie in older blocks. -/
namespace Go.Proofs.Ytialdelfmmdfjaa
open Go.RowKit

/-- the bytes that a reader reads lie in older blocks than B -/
def lowA (A : Option Addr) (m B : Nat) : Prop := ∀ k, k < m → ∃ g o, A = some ⟨g, o, none⟩ ∧ g < B

theorem Rd.other {w w' : World} {rg m c K B q : Nat} {A : Option Addr} (h : Rd w rg A m c K) (hA : lowA A m B) (hg : w.grownBy w' (some q)) (hq : q ≠ rg) (hB : B ≤ q) : Rd w' rg A m c K := by
  obtain ⟨h1, h2, h3, ⟨p, h4, h5⟩, h6, h7, h8, h9⟩ := h
  have hne : some rg ≠ some q := fun e => hq (by injection e with e; exact e.symm)
  refine ⟨Nat.lt_of_lt_of_le h1 hg.size, (hg.cell_far ⟨rg, _, none⟩ h1 hne).trans h2, (hg.frozen_far ⟨rg, _, none⟩ h1 hne).trans h3, ⟨p, (hg.cell_far ⟨rg, _, none⟩ h1 hne).trans h4, h5⟩, h6, h7, h8, fun k hk => ?_⟩
  obtain ⟨g, o, x, hA', hgl, hc, hx⟩ := h9 k hk
  obtain ⟨g2, o2, e2, hg2⟩ := hA k hk
  rw [hA'] at e2
  injection e2 with e2
  injection e2 with e2
  subst e2
  have hne2 : some g ≠ some q := fun e => by
    injection e with e
    omega
  exact ⟨g, o, x, hA', hgl, (hg.cell_far ⟨g, _, none⟩ (Nat.lt_trans hgl h1) hne2).trans hc, hx⟩

theorem l20Open_same (A : Option Addr) (c n : Nat) (w : World) (h : ArgBytes w (.slice A n c) n) :
    Calls Try.prog 32 #[.slice A n c] w fun e w' => ∃ m, e = .returned (.pointer (some ⟨w.heap.size, 0, none⟩)) ∧ Rd w' w.heap.size A m c 0 ∧ m ≤ n ∧ Below w.heap.size w w' ∧ w'.heap.size = w.heap.size + 1 := by
  obtain ⟨A', c', e', hc1, hc2, hcell⟩ := id h
  injection e' with e1 e2 e3
  subst e1
  subst e3
  clear e2
  unfold maxLen at hc2
  by_cases hn : 2000 < n
  · go_enter Try.func32, Try.ntmps32
    go_wp2
    go_ret
    refine ⟨2000, rfl, ⟨by simp, by simp, by simp, ⟨0, by simp, Nat.le_refl _⟩, by omega, by unfold maxLen; omega, Nat.le_refl _, fun k hk => ?_⟩, by omega, by (repeat (first | (with_reducible assumption) | (with_reducible exact Below.refl _ _) | ((with_reducible refine Below.alloc ?_ ?hsz _); (case hsz => (first | omega | (simp; done) | (simp; omega) | (simp at *; omega)))) | ((with_reducible refine Below.setCell ?_ ?hsz _); (case hsz => (first | omega | (simp; done) | (simp; omega) | (simp at *; omega)))) | (with_reducible refine Below.drew ?_) | (with_reducible refine below_drewN ?_ _) | ((with_reducible refine Below.trans ?_ (Below.mono (by with_reducible assumption) ?hsz)); (case hsz => (first | omega | (simp; done) | (simp; omega) | (simp at *; omega)))))), by simp⟩
    obtain ⟨g, o, x, hA, hg, hc, hx⟩ := hcell k (by omega)
    exact ⟨g, o, x, hA, hg, (World.cell?_alloc_lt _ _ _ hg).trans hc, hx⟩
  · go_enter Try.func32, Try.ntmps32
    go_wp2
    go_ret
    refine ⟨n, rfl, ⟨by simp, by simp, by simp, ⟨0, by simp, Nat.le_refl _⟩, by omega, by unfold maxLen; omega, by omega, fun k hk => ?_⟩, Nat.le_refl _, by (repeat (first | (with_reducible assumption) | (with_reducible exact Below.refl _ _) | ((with_reducible refine Below.alloc ?_ ?hsz _); (case hsz => (first | omega | (simp; done) | (simp; omega) | (simp at *; omega)))) | ((with_reducible refine Below.setCell ?_ ?hsz _); (case hsz => (first | omega | (simp; done) | (simp; omega) | (simp at *; omega)))) | (with_reducible refine Below.drew ?_) | (with_reducible refine below_drewN ?_ _) | ((with_reducible refine Below.trans ?_ (Below.mono (by with_reducible assumption) ?hsz)); (case hsz => (first | omega | (simp; done) | (simp; omega) | (simp at *; omega)))))), by simp⟩
    obtain ⟨g, o, x, hA, hg, hc, hx⟩ := hcell k (by omega)
    exact ⟨g, o, x, hA, hg, (World.cell?_alloc_lt _ _ _ hg).trans hc, hx⟩

end Go.Proofs.Ytialdelfmmdfjaa

/- Contracts of the laws' draws of chapter 7. -/
namespace Go.Proofs.Ytialdelfmmdfjaa
open Go.RowKit

/-- what is known of the world while a net and more are returned -/
structure ZSt (w : World) (rg m c K nb b : Nat) (A : Option Addr) (z : Int) (S : Value) (ps : List Pp) (F f : Nat) (wx : World) : Prop where
  fl : f ≤ F
  be : Below w.heap.size w wx
  rd : Rd wx rg A m c (K + (F - f) * 50)
  pi : Pipes wx b S ps
  nb : Box2 wx nb (.int .i64 z) S
  r2 : Box2 wx w.heap.size (.int .i64 0) (.slice none 0 0) ∨ Box2 wx w.heap.size (.int .i64 z) S

section
variable {w wx wy : World} {rg m c K nb b F f : Nat} {A : Option Addr} {z : Int} {S : Value} {ps : List Pp}
theorem ZSt.more (h : ZSt w rg m c K nb b A z S ps F (f + 1) wx) : ZSt w rg m c K nb b A z S ps F f wx :=
  ⟨Nat.le_of_succ_le h.fl, h.be, h.rd.more (by omega), h.pi, h.nb, h.r2⟩
theorem ZSt.picked (h : ZSt w rg m c K nb b A z S ps F (f + 1) wx) (hrg : rg = w.heap.size + 1) (hnb : rg < nb) (hb : rg < b) (hg : wx.grownBy wy (some rg)) (hr : Rd wy rg A m c (K + (F - (f + 1)) * 50 + 40)) : ZSt w rg m c K nb b A z S ps F f wy := by
  have hf := h.fl
  refine ⟨by omega, h.be.trans (below_grow (B := w.heap.size) hg h.be.size (fun q hq => by injection hq with hq; omega)), hr.more (by omega), h.pi.grown hg hb, h.nb.grown hg (by simp; omega), ?_⟩
  rcases h.r2 with q | q
  · exact .inl (q.grown hg (by simp; omega))
  · exact .inr (q.grown hg (by simp; omega))
theorem ZSt.set2 (h : ZSt w rg m c K nb b A z S ps F (f + 1) wx) (hA : lowA A m w.heap.size) (hrg : rg = w.heap.size + 1) (hnb : rg < nb) (hb : rg < b) :
    ZSt w rg m c K nb b A z S ps F f ((wx.setCell ⟨w.heap.size, 0, none⟩ (.int .i64 z)).setCell ⟨w.heap.size, 1, none⟩ S) := by
  have g1 : wx.grownBy (wx.setCell ⟨w.heap.size, 0, none⟩ (.int .i64 z)) (some w.heap.size) := grow_set (p := ⟨w.heap.size, 0, none⟩) (grow_refl wx _) (Or.inr rfl) _
  have hg : wx.grownBy ((wx.setCell ⟨w.heap.size, 0, none⟩ (.int .i64 z)).setCell ⟨w.heap.size, 1, none⟩ S) (some w.heap.size) := grow_set (p := ⟨w.heap.size, 1, none⟩) g1 (Or.inr rfl) S
  generalize hX : (wx.setCell ⟨w.heap.size, 0, none⟩ (.int .i64 z)).setCell ⟨w.heap.size, 1, none⟩ S = wz at hg ⊢
  have hb2 : Below w.heap.size w wz := by subst hX; exact (h.be.setCell (Nat.le_refl _) _).setCell (Nat.le_refl _) _
  have hb3 : Box2 wz w.heap.size (.int .i64 z) S := by
    subst hX
    rcases h.r2 with q | q
    · exact (q.set0 _).set1 _
    · exact (q.set0 _).set1 _
  exact ⟨Nat.le_of_succ_le h.fl, hb2, (h.rd.other hA hg (by omega) (Nat.le_refl _)).more (by omega), h.pi.grown hg (by omega), h.nb.grown hg (by simp; omega), .inr hb3⟩
end

/-- what the operations yield -/
def rsZ (rg nb L : Nat) (z : Int) (S : Value) : Nat → Value → Prop
  | 0, x => x = .agg #[.int .i64 z, S]
  | 1, x => x = .pointer (some ⟨rg, 0, none⟩)
  | 2, x => x = .pointer (some ⟨nb, 1, none⟩)
  | 3, x => x = S
  | 4, x => x = .int .i64 (L : Int)
  | 5, x => x = .int .i64 ((L : Int) + 1)
  | 6, x => ∃ y : Int, x = .int .i64 y ∧ 0 ≤ y ∧ y ≤ 8
  | 7, x => x = .pointer (some ⟨rg, 0, none⟩)
  | 8, x => ∃ y : Int, x = .int .i64 y ∧ 0 ≤ y ∧ y < 40
  | 9, x => ∃ y : Int, x = .int .i64 y ∧ 0 ≤ y ∧ y ≤ 1
  | 10, x => ∃ y : Int, x = .int .i64 y
  | 12, x => ∃ y : Int, x = .int .i64 y
  | _, _ => True
/-- what the operations yield -/
def teZ (rg B : Nat) (z : Int) (S : Value) : Nat → Value → World → Prop
  | 0, x, _ => x = .agg #[.int .i64 z, S]
  | 1, x, _ => x = .pointer (some ⟨rg, 0, none⟩)
  | 2, x, _ => x = .agg #[.int .i64 z, S]
  | 3, x, w => ∃ hs, Ints w B x hs
  | 5, x, w => ∃ hs, Ints w B x hs
  | _, _, _ => True
theorem teZ_keep {rg B C : Nat} {z : Int} {S x : Value} {k' : Nat} {w w' : World} (hCB : C + 2 ≤ B) (hR : ∃ q, q ≤ C + 1 ∧ w.grownBy w' (some q)) (h : teZ rg B z S k' x w) : teZ rg B z S k' x w' := by
  revert h
  unfold teZ
  split <;> intro h <;> first
    | exact h
    | (obtain ⟨hs, h1⟩ := h
       obtain ⟨q, hq, hg⟩ := hR
       exact ⟨hs, h1.1.kept hg (.inr (fun e => by have := (h1.1.lt q e).1; omega)), h1.2⟩)
theorem zset_grown (wx : World) (g : Nat) (z : Int) (S : Value) : wx.grownBy ((wx.setCell ⟨g, 0, none⟩ (.int .i64 z)).setCell ⟨g, 1, none⟩ S) (some g) :=
  grow_set (p := ⟨g, 1, none⟩) (grow_set (p := ⟨g, 0, none⟩) (grow_refl wx _) (Or.inr rfl) _) (Or.inr rfl) S

end Go.Proofs.Ytialdelfmmdfjaa

/- Contract of the draw of products (chapter 7). -/
namespace Go.Proofs.Ytialdelfmmdfjaa
open Go.RowKit

theorem ZSt.below {w wx wy : World} {rg m c K nb b F f : Nat} {A : Option Addr} {z : Int} {S : Value} {ps : List Pp} (h : ZSt w rg m c K nb b A z S ps F (f + 1) wx) (hb : Below wx.heap.size wx wy) : ZSt w rg m c K nb b A z S ps F f wy := by
  have h' := h.more
  refine ⟨h'.fl, h'.be.trans (hb.mono h'.be.size), h'.rd.keep hb, h'.pi.keep hb, h'.nb.keep hb, ?_⟩
  rcases h'.r2 with q | q
  · exact .inl (q.keep hb)
  · exact .inr (q.keep hb)

/-- what is known while the row is drawn -/
structure PZ (W0 : World) (rg m c K g1 k c1 : Nat) (A : Option Addr) (hs : List Int) (wx : World) : Prop where
  gr : W0.grownBy wx (some rg)
  rd : Rd wx rg A m c K
  ro : Row wx W0.heap.size g1 k c1 hs
section
variable {W0 wx wy : World} {rg m c K K' g1 k c1 : Nat} {A : Option Addr} {hs : List Int}
theorem PZ.le (h : PZ W0 rg m c K g1 k c1 A hs wx) (hK : K ≤ K') : PZ W0 rg m c K' g1 k c1 A hs wx := ⟨h.gr, h.rd.more hK, h.ro⟩
theorem PZ.grown (h : PZ W0 rg m c K g1 k c1 A hs wx) (hrg : rg < W0.heap.size) (hr : Rd wy rg A m c K') (hg : wx.grownBy wy (some rg)) : PZ W0 rg m c K' g1 k c1 A hs wy :=
  ⟨grow_more h.gr hg (fun q hq => .inr hq), hr, h.ro.grown hg (by have := h.ro.lt; intro e; injection e with e; omega)⟩
theorem PZ.made (h : PZ W0 rg m c K g1 k c1 A hs wx) (o : Obj) : PZ W0 rg m c K g1 k c1 A hs (wx.alloc o) :=
  ⟨grow_alloc h.gr _, h.rd.alloc' o, h.ro.keep ((Below.refl _ _).alloc (Nat.le_refl _) o)⟩
theorem PZ.rowed {g2 k2 : Nat} {row : Option Nat} {hs2 : List Int} (h : PZ W0 rg m c K g1 k c1 A hs wx) (hrg : rg < W0.heap.size) (hrow : ∀ q, row = some q → W0.heap.size ≤ q) (hg : wx.grownBy wy row) (hR : Row wy W0.heap.size g2 (k + 1) k2 hs2) : PZ W0 rg m c K g2 (k + 1) k2 A hs2 wy :=
  ⟨grow_more h.gr hg (fun q hq => .inl (hrow q hq)), h.rd.low (below_grow hg (by have := h.rd.1; omega) (fun q hq => by have := hrow q hq; omega)), hR⟩
end

/-- what the operations yield -/
def prZ (rg B : Nat) (z : Int) (S F : Value) : Nat → Value → World → Prop
  | 0, x, _ => x = .agg #[.int .i64 z, S]
  | 1, x, _ => x = F
  | 2, x, _ => x = .agg #[.int .i64 z, S]
  | 3, x, _ => x = .pointer (some ⟨rg, 0, none⟩)
  | 4, x, _ => x = .agg #[.int .i64 z, S]
  | 5, x, w => ∃ hs, Ints w B x hs
  | 6, x, w => ∃ hs, Ints w B x hs
  | 8, x, _ => x = F
  | 9, x, w => ∃ hs, Ints w B x hs
  | _, _, _ => True
theorem prZ_keep {rg B C : Nat} {z : Int} {S F x : Value} {k' : Nat} {w w' : World} (hCB : C + 2 ≤ B) (hR : ∃ q, q ≤ C + 1 ∧ w.grownBy w' (some q)) (h : prZ rg B z S F k' x w) : prZ rg B z S F k' x w' := by
  revert h
  unfold prZ
  split <;> intro h <;> first
    | exact h
    | (obtain ⟨hs, h1⟩ := h
       obtain ⟨q, hq, hg⟩ := hR
       exact ⟨hs, h1.1.kept hg (.inr (fun e => by have := (h1.1.lt q e).1; omega)), h1.2⟩)

/-- what the operations yield -/
def pbZ (rg nb k L : Nat) (S : Value) : Nat → Value → Prop
  | 0, x => x = .int .i64 (k : Int)
  | 1, x => x = .pointer (some ⟨nb, 1, none⟩)
  | 2, x => x = S
  | 3, x => x = .int .i64 (L : Int)
  | 4, x => x = .pointer (some ⟨rg, 0, none⟩)
  | 5, x => ∃ y : Int, x = .int .i64 y ∧ 0 ≤ y ∧ y < 20
  | 6, x => ∃ y : Int, x = .int .i64 y ∧ 0 ≤ y ∧ y ≤ 1
  | 7, x => ∃ y : Int, x = .int .i64 y ∧ y ≤ (L : Int) + 1
  | 8, x => ∃ b : Bool, x = .bool b ∧ (b = true → (k : Int) < (L : Int) + 1)
  | _, _ => True

end Go.Proofs.Ytialdelfmmdfjaa
