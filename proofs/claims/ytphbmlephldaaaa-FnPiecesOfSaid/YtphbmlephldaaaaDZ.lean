/- Contracts of the laws' draws of chapter 7. -/
import Derived.Test.YtphbmlephldaaaaG1
import Derived.Test.YtphbmlephldaaaaDO
import Derived.Test.YtphbmlephldaaaaGA
import Derived.Test.YtphbmlephldaaaaRW
namespace Go.Proofs.Ytphbmlephldaaaa
open Go.RowKit

set_option maxHeartbeats 1000000 in
set_option maxRecDepth 20000 in
theorem drawPiecesOf_any (v : Value) (n : Nat) (w : World) (h : ArgBytes w v n) : Calls Try.prog 29 #[v] w (DrawnNet w) := by
  have bx0 := Box2.new w (.int .i64 0) (.slice none 0 0) 25
  go_enter Try.func29, Try.ntmps29
  go_wp2_with fail
  refine (l20Open_any v n _ (h.keep (by (repeat (first | (with_reducible assumption) | (with_reducible exact Below.refl _ _) | ((with_reducible refine Below.alloc ?_ ?hsz _); (case hsz => (first | omega | (simp; done) | (simp; omega) | (simp at *; omega)))) | ((with_reducible refine Below.setCell ?_ ?hsz _); (case hsz => (first | omega | (simp; done) | (simp; omega) | (simp at *; omega)))) | (with_reducible refine Below.drew ?_) | (with_reducible refine below_drewN ?_ _) | ((with_reducible refine Below.trans ?_ (Below.mono (by with_reducible assumption) ?hsz)); (case hsz => (first | omega | (simp; done) | (simp; omega) | (simp at *; omega))))))))).mono ?_
  rintro e w1 ⟨A, m, c, rfl, hr1, hb1, hz1⟩
  have bx1 := bx0.keep (hb1.mono (by simp))
  rw [World.size_alloc] at hr1 hz1
  have hgo : Below w.heap.size w w1 := by (repeat (first | (with_reducible assumption) | (with_reducible exact Below.refl _ _) | ((with_reducible refine Below.alloc ?_ ?hsz _); (case hsz => (first | omega | (simp; done) | (simp; omega) | (simp at *; omega)))) | ((with_reducible refine Below.setCell ?_ ?hsz _); (case hsz => (first | omega | (simp; done) | (simp; omega) | (simp at *; omega)))) | (with_reducible refine Below.drew ?_) | (with_reducible refine below_drewN ?_ _) | ((with_reducible refine Below.trans ?_ (Below.mono (by with_reducible assumption) ?hsz)); (case hsz => (first | omega | (simp; done) | (simp; omega) | (simp at *; omega))))))
  go_wp2_with fail
  with_reducible refine (l20Net_any 9 (w.heap.size + 1) m c 0 A _ hr1 (by omega) (by omega) (by omega)).mono ?_
  rintro e w2 ⟨z, ps, u, rfl, hp2, hr2, hg2, hl8, hzl, hzh⟩
  have bx2 := bx1.grown hg2 (by simp)
  have hs2 := hg2.size
  have hb2 : Below w.heap.size w w2 := hgo.trans (below_grow hg2 (by omega) (fun q hq => by injection hq with hq; omega))
  obtain ⟨PA, pc, rfl, hc1, hc2, hsm, -⟩ := hp2.form
  unfold maxLen at hc2
  obtain ⟨bs, b0, b1, b2, b3⟩ := id bx2
  go_wp2
  refine bodyPost_ret (v := .agg #[.int .i64 z, .slice PA ps.length pc]) (by simp [results, Try.results29, go_sem, b0, b1]) rfl ⟨z, ps, _, rfl, ?_, ?_, hl8, hzl, hzh⟩
  · refine Pipes.mono (b := w1.heap.size) ?_ (by omega)
    (repeat (first | (with_reducible assumption) | ((with_reducible refine Pipes.setLow ?_ ?hsz); (case hsz => (first | omega | (simp; done) | (simp; omega) | (simp at *; omega)))) | (with_reducible refine Pipes.alloc' ?_ _) | (with_reducible refine Pipes.drew' ?_) | (with_reducible refine Pipes.drewN' ?_ _) | ((with_reducible refine Pipes.keep ?_ (by with_reducible assumption)))))
  · (repeat (first | (with_reducible assumption) | (with_reducible exact Below.refl _ _) | ((with_reducible refine Below.alloc ?_ ?hsz _); (case hsz => (first | omega | (simp; done) | (simp; omega) | (simp at *; omega)))) | ((with_reducible refine Below.setCell ?_ ?hsz _); (case hsz => (first | omega | (simp; done) | (simp; omega) | (simp at *; omega)))) | (with_reducible refine Below.drew ?_) | (with_reducible refine below_drewN ?_ _) | ((with_reducible refine Below.trans ?_ (Below.mono (by with_reducible assumption) ?hsz)); (case hsz => (first | omega | (simp; done) | (simp; omega) | (simp at *; omega))))))

/-- what is known of the world while a net and more are returned -/
structure ZSt (w : World) (rg m c K nb b : Nat) (A : Option Addr) (z : Int) (S : Value) (ps : List Pp) (F f : Nat) (wx : World) : Prop where
  fl : f ≤ F
  be : Below w.heap.size w wx
  rd : Rd wx rg A m c (K + (F - f) * 50)
  pi : Pipes wx b S ps
  nb : Box2 wx nb (.int .i64 z) S
  r2 : Box2 wx w.heap.size (.int .i64 0) (.slice none 0 0) ∨ Box2 wx w.heap.size (.int .i64 z) S

section
variable {w wx wy : World} {rg m c K nb b F f : Nat} {A : Option Addr} {z : Int} {S : Value} {ps : List Pp}
theorem ZSt.more (h : ZSt w rg m c K nb b A z S ps F (f + 1) wx) : ZSt w rg m c K nb b A z S ps F f wx :=
  ⟨Nat.le_of_succ_le h.fl, h.be, h.rd.more (by omega), h.pi, h.nb, h.r2⟩
theorem ZSt.picked (h : ZSt w rg m c K nb b A z S ps F (f + 1) wx) (hrg : rg = w.heap.size + 1) (hnb : rg < nb) (hb : rg < b) (hg : wx.grownBy wy (some rg)) (hr : Rd wy rg A m c (K + (F - (f + 1)) * 50 + 40)) : ZSt w rg m c K nb b A z S ps F f wy := by
  have hf := h.fl
  refine ⟨by omega, h.be.trans (below_grow (B := w.heap.size) hg h.be.size (fun q hq => by injection hq with hq; omega)), hr.more (by omega), h.pi.grown hg hb, h.nb.grown hg (by simp; omega), ?_⟩
  rcases h.r2 with q | q
  · exact .inl (q.grown hg (by simp; omega))
  · exact .inr (q.grown hg (by simp; omega))
theorem ZSt.set2 (h : ZSt w rg m c K nb b A z S ps F (f + 1) wx) (hA : lowA A m w.heap.size) (hrg : rg = w.heap.size + 1) (hnb : rg < nb) (hb : rg < b) :
    ZSt w rg m c K nb b A z S ps F f ((wx.setCell ⟨w.heap.size, 0, none⟩ (.int .i64 z)).setCell ⟨w.heap.size, 1, none⟩ S) := by
  have g1 : wx.grownBy (wx.setCell ⟨w.heap.size, 0, none⟩ (.int .i64 z)) (some w.heap.size) := grow_set (p := ⟨w.heap.size, 0, none⟩) (grow_refl wx _) (Or.inr rfl) _
  have hg : wx.grownBy ((wx.setCell ⟨w.heap.size, 0, none⟩ (.int .i64 z)).setCell ⟨w.heap.size, 1, none⟩ S) (some w.heap.size) := grow_set (p := ⟨w.heap.size, 1, none⟩) g1 (Or.inr rfl) S
  generalize hX : (wx.setCell ⟨w.heap.size, 0, none⟩ (.int .i64 z)).setCell ⟨w.heap.size, 1, none⟩ S = wz at hg ⊢
  have hb2 : Below w.heap.size w wz := by subst hX; exact (h.be.setCell (Nat.le_refl _) _).setCell (Nat.le_refl _) _
  have hb3 : Box2 wz w.heap.size (.int .i64 z) S := by
    subst hX
    rcases h.r2 with q | q
    · exact (q.set0 _).set1 _
    · exact (q.set0 _).set1 _
  exact ⟨Nat.le_of_succ_le h.fl, hb2, (h.rd.other hA hg (by omega) (Nat.le_refl _)).more (by omega), h.pi.grown hg (by omega), h.nb.grown hg (by simp; omega), .inr hb3⟩
end

/-- what the operations yield -/
def rsZ (rg nb L : Nat) (z : Int) (S : Value) : Nat → Value → Prop
  | 0, x => x = .agg #[.int .i64 z, S]
  | 1, x => x = .pointer (some ⟨rg, 0, none⟩)
  | 2, x => x = .pointer (some ⟨nb, 1, none⟩)
  | 3, x => x = S
  | 4, x => x = .int .i64 (L : Int)
  | 5, x => x = .int .i64 ((L : Int) + 1)
  | 6, x => ∃ y : Int, x = .int .i64 y ∧ 0 ≤ y ∧ y ≤ 8
  | 7, x => x = .pointer (some ⟨rg, 0, none⟩)
  | 8, x => ∃ y : Int, x = .int .i64 y ∧ 0 ≤ y ∧ y < 40
  | 9, x => ∃ y : Int, x = .int .i64 y ∧ 0 ≤ y ∧ y ≤ 1
  | 10, x => ∃ y : Int, x = .int .i64 y
  | 12, x => ∃ y : Int, x = .int .i64 y
  | _, _ => True
/-- what the operations yield -/
def teZ (rg B : Nat) (z : Int) (S : Value) : Nat → Value → World → Prop
  | 0, x, _ => x = .agg #[.int .i64 z, S]
  | 1, x, _ => x = .pointer (some ⟨rg, 0, none⟩)
  | 2, x, _ => x = .agg #[.int .i64 z, S]
  | 3, x, w => ∃ hs, Ints w B x hs
  | 5, x, w => ∃ hs, Ints w B x hs
  | _, _, _ => True
theorem teZ_keep {rg B C : Nat} {z : Int} {S x : Value} {k' : Nat} {w w' : World} (hCB : C + 2 ≤ B) (hR : ∃ q, q ≤ C + 1 ∧ w.grownBy w' (some q)) (h : teZ rg B z S k' x w) : teZ rg B z S k' x w' := by
  revert h
  unfold teZ
  split <;> intro h <;> first
    | exact h
    | (obtain ⟨hs, h1⟩ := h
       obtain ⟨q, hq, hg⟩ := hR
       exact ⟨hs, h1.1.kept hg (.inr (fun e => by have := (h1.1.lt q e).1; omega)), h1.2⟩)
theorem zset_grown (wx : World) (g : Nat) (z : Int) (S : Value) : wx.grownBy ((wx.setCell ⟨g, 0, none⟩ (.int .i64 z)).setCell ⟨g, 1, none⟩ S) (some g) :=
  grow_set (p := ⟨g, 1, none⟩) (grow_set (p := ⟨g, 0, none⟩) (grow_refl wx _) (Or.inr rfl) _) (Or.inr rfl) S

end Go.Proofs.Ytphbmlephldaaaa
