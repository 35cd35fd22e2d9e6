/- Plain facts. -/
import Derived.Test.YtialdelfmmdfjaaGJ
import Derived.Test.YtialdelfmmdfjaaS1
import Derived.Test.YtialdelfmmdfjaaRW
import Derived.Test.YtialdelfmmdfjaaRD
import Derived.Deep.QuietTactic
import Derived.Deep.AppendLies
import Derived.Test.YtialdelfmmdfjaaGA
import Derived.StillTailTactics
import Derived.Test.YtialdelfmmdfjaaSG
/- Contracts of the functions of chapter 7 in the model: labels, trees, pieces. -/
namespace Go.Proofs.Ytialdelfmmdfjaa
open Go.RowKit

theorem row_empty7 (w : World) {b : Nat} (hb : b ≤ w.heap.size) : Row (w.alloc (.cells #[] 3)) b w.heap.size 0 0 [] :=
  ⟨World.ownsRow_lit (e := 3) (base := b) (size := 1) w #[] 0 hb (by simp [maxLen]) rfl, by simp [small]⟩

theorem treeN_bd {n : Nat} {ps : List Pp} {k : Nat} (hk : k ≤ ps.length) : ∀ t ∈ numW k (treeF n ps), 0 ≤ t ∧ t < (ps.length : Int) := fun t ht => by
  obtain ⟨i, h1, -, rfl⟩ := numW_mem.1 ht
  omega

end Go.Proofs.Ytialdelfmmdfjaa

/- Contracts of the functions of chapter 7 in the model: pieces, tensions, products. -/
namespace Go.Proofs.Ytialdelfmmdfjaa
open Go.RowKit

/-- what the operations yield -/
def spV7 (N nb m c B : Nat) (A : Option Addr) (T : List Int) : Nat → Value → World → Prop
  | 0, x, _ => x = .pointer (some ⟨nb, 0, none⟩)
  | 1, x, _ => x = .int .i64 (N : Int)
  | 2, x, _ => x = .agg #[.int .i64 (N : Int), .slice A m c]
  | 3, x, w => Ints w B x T
  | 4, x, _ => x = .int .i64 (T.length : Int)
  | 5, x, _ => x = .int .i64 ((N : Int) - (T.length : Int))
  | 6, x, _ => x = .int .i64 ((N : Int) - (T.length : Int))
  | _, _, _ => True
theorem spV7_keep {N nb m c B : Nat} {A : Option Addr} {T : List Int} {x : Value} {k' : Nat} {w w' : World} (hb : Below w.heap.size w w') (h : spV7 N nb m c B A T k' x w) : spV7 N nb m c B A T k' x w' := by
  revert h
  unfold spV7
  split <;> intro h <;> first | exact h | exact h.keep hb

theorem rowB_no {xs : List Int} {cnt l m : Int} {k : Nat} (hk : k < xs.length) (h : withinB xs[k] l m = false) : rowB xs cnt l m = false := by
  rw [rowB, all_no hk (by simp [h]), Bool.and_false]

/-- what the operations yield -/
def tnV (nb g c c' g' H g1 k c1 a e B : Nat) (xa xe : Int) (M : Nat) (L : List Int) : Nat → Value → World → Prop
  | 0, x, _ => x = .slice (some ⟨g1, 0, none⟩) k c1
  | 1, x, _ => x = .slice (some ⟨g', 0, none⟩) H c'
  | 2, x, _ => x = .pointer (some ⟨nb, 1, none⟩)
  | 3, x, _ => x = (.slice (some ⟨g, 0, none⟩) M c)
  | 4, x, _ => x = .int .i64 (k : Int)
  | 5, x, _ => x = .pointer (some ⟨g, k * 5, none⟩)
  | 6, x, _ => x = .pointer (some ⟨g, k * 5 + 1, none⟩)
  | 7, x, _ => x = .int .i64 (e : Int)
  | 8, x, _ => x = .pointer (some ⟨g', e, none⟩)
  | 9, x, _ => x = .int .i64 xe
  | 10, x, _ => x = .slice (some ⟨g', 0, none⟩) H c'
  | 11, x, _ => x = .pointer (some ⟨nb, 1, none⟩)
  | 12, x, _ => x = (.slice (some ⟨g, 0, none⟩) M c)
  | 13, x, _ => x = .int .i64 (k : Int)
  | 14, x, _ => x = .pointer (some ⟨g, k * 5, none⟩)
  | 15, x, _ => x = .pointer (some ⟨g, k * 5, none⟩)
  | 16, x, _ => x = .int .i64 (a : Int)
  | 17, x, _ => x = .pointer (some ⟨g', a, none⟩)
  | 18, x, _ => x = .int .i64 xa
  | 19, x, _ => x = .int .i64 (xe - xa)
  | 20, x, w => ∃ gl, x = .slice (some ⟨gl, 0, none⟩) 1 1 ∧ B ≤ gl ∧ w.heap[gl]? = some (.cells #[.int .i64 (xe - xa)] 3 (0, 0))
  | 21, x, w => ∃ g2 k2, x = .slice (some ⟨g2, 0, none⟩) (k + 1) k2 ∧ Row w (nb + 1) g2 (k + 1) k2 (L ++ [xe - xa])
  | 22, x, w => ∃ g2 k2, x = .slice (some ⟨g2, 0, none⟩) (k + 1) k2 ∧ Row w (nb + 1) g2 (k + 1) k2 (L ++ [xe - xa])
  | _, _, _ => True
theorem tnV_keep {nb g c c' g' H g1 k c1 a e B : Nat} {xa xe : Int} {M : Nat} {L : List Int} {x : Value} {k' : Nat} {w w' : World} (hb : Below w.heap.size w w') (h : tnV nb g c c' g' H g1 k c1 a e B xa xe M L k' x w) : tnV nb g c c' g' H g1 k c1 a e B xa xe M L k' x w' := by
  revert h
  unfold tnV
  split <;> intro h <;> first
    | exact h
    | (obtain ⟨gl, h1, h2, h3⟩ := h
       have hgl : gl < _ := (Array.getElem?_eq_some_iff.1 h3).1
       exact ⟨gl, h1, h2, (hb.block gl hgl).trans h3⟩)
    | (obtain ⟨g2, k2, h1, h2⟩ := h; exact ⟨g2, k2, h1, h2.keep hb⟩)
def tnR : Nat → World → World → Prop
  | 21, _, _ => True
  | _, w, w' => Below w.heap.size w w'
/-- what is known of the world, so many operations ahead of the end -/
def tnC (w wr : World) (u0 u1 : Value) (g1 k c1 : Nat) (L : List Int) (f : Nat) (wx : World) : Prop :=
  Below w.heap.size w wx ∧ Box2 wx w.heap.size u0 u1 ∧ (2 ≤ f → Row wx (w.heap.size + 1) g1 k c1 L ∧ Below wr.heap.size wr wx)
section
variable {w wr wx : World} {u0 u1 : Value} {g1 k c1 f : Nat} {L : List Int}
theorem tnC.step (h : tnC w wr u0 u1 g1 k c1 L (f + 1) wx) : tnC w wr u0 u1 g1 k c1 L f wx := ⟨h.1, h.2.1, fun hf => h.2.2 (by omega)⟩
theorem tnC.made (h : tnC w wr u0 u1 g1 k c1 L f wx) (o : Obj) : tnC w wr u0 u1 g1 k c1 L f (wx.alloc o) :=
  ⟨h.1.trans ((Below.refl _ _).alloc h.1.size _), h.2.1.keep ((Below.refl _ _).alloc (Nat.le_refl _) _), fun hf => ⟨(h.2.2 hf).1.keep ((Below.refl _ _).alloc (Nat.le_refl _) _), (h.2.2 hf).2.trans ((Below.refl _ _).alloc (h.2.2 hf).2.size _)⟩⟩
end

end Go.Proofs.Ytialdelfmmdfjaa

/- Contracts of the functions of chapter 7 in the model: the signs of rings. -/
namespace Go.Proofs.Ytialdelfmmdfjaa
open Go.RowKit

abbrev ofS7 (l : List Nat) : List Int := l.map fun s : Nat => (s : Int)

theorem made_row7 (w : World) {N : Nat} (h : N ≤ 4194304) : Row (w.alloc (.cells (madeCells #[.int .i64 0] N) 3)) w.heap.size w.heap.size N N (List.replicate N 0) :=
  ⟨made_ints w N 3 w.heap.size (Nat.le_refl _) h, h⟩
theorem freeQ_snoc {ps : List Pp} {T : List Int} {k : Nat} (hk : k < T.length) : freeQ ps (T.take (k + 1)) = freeQ ps (T.take k) ++ [⟨(ps.getD (T[k]).toNat zeroPp).fr, (ps.getD (T[k]).toNat zeroPp).to, 0, 2, 0⟩] := by
  unfold freeQ
  rw [List.take_succ_eq_append_getElem hk, List.map_append]
  rfl

/-- what the operations yield -/
def swV7 (N nb g m c k a e B : Nat) (fv hv : Value) (L : List Int) : Nat → Value → World → Prop
  | 0, x, _ => x = .agg #[.int .i64 (N : Int), fv]
  | 1, x, _ => x = hv
  | 2, x, _ => x = .pointer (some ⟨nb, 1, none⟩)
  | 3, x, _ => x = (.slice (some ⟨g, 0, none⟩) m c)
  | 4, x, _ => x = .int .i64 (k : Int)
  | 5, x, _ => x = .pointer (some ⟨g, k * 5, none⟩)
  | 6, x, _ => x = .pointer (some ⟨g, k * 5 + 1, none⟩)
  | 7, x, _ => x = .int .i64 (e : Int)
  | 8, x, _ => x = .pointer (some ⟨nb, 1, none⟩)
  | 9, x, _ => x = (.slice (some ⟨g, 0, none⟩) m c)
  | 10, x, _ => x = .int .i64 (k : Int)
  | 11, x, _ => x = .pointer (some ⟨g, k * 5, none⟩)
  | 12, x, _ => x = .pointer (some ⟨g, k * 5, none⟩)
  | 13, x, _ => x = .int .i64 (a : Int)
  | 14, x, w => Ints w B x L
  | 15, x, w => Ints w B x L
  | _, _, _ => True
theorem swV7_keep {N nb g m c k a e B : Nat} {fv hv : Value} {L : List Int} {x : Value} {k' : Nat} {w w' : World} (hb : Below w.heap.size w w') (h : swV7 N nb g m c k a e B fv hv L k' x w) : swV7 N nb g m c k a e B fv hv L k' x w' := by
  revert h
  unfold swV7
  split <;> intro h <;> first | exact h | exact h.keep hb

end Go.Proofs.Ytialdelfmmdfjaa
