/- Contracts of the functions of chapter 5 in the program: WithPipe. -/
import Derived.Test.YtnefafpfeagflaaC2
import Derived.Test.YtnefafpfeagflaaGA
import Derived.Test.YtnefafpfeagflaaW1
import Derived.Test.YtnefafpfeagflaaWG
import Derived.Deep.DeepCutAuto
import Derived.Lib.SliceRun
namespace Go.Proofs.Ytnefafpfeagflaa
open Go.RowKit

theorem pipes_new {w : World} {b : Nat} {v : Value} {ps : List Pp} (h : Pipes w b v ps) : ps.length ≤ 4194304 := h.2

set_option maxHeartbeats 1000000 in
set_option maxRecDepth 20000 in
theorem clonePipes_any (v : Value) (ps : List Pp) (b : Nat) (w : World) (hp : Pipes w b v ps) (hs : ps.length ≤ 1048576) :
    Calls Try.prog 89 #[v] w fun e w' => ∃ r, e = .returned r ∧ Pipes w' w.heap.size r ps ∧ Below w.heap.size w w' := by
  have hsrc := hp.src
  obtain ⟨i0, hi0, hz0, hz1, hz2⟩ := info_parts pipe_info
  rcases hp.1.2 with ⟨rfl, hn⟩ | ⟨g, cap, cur, rfl, -, -, -, -, -, -⟩
  · have hps : ps = [] := List.eq_nil_of_length_eq_zero hn
    subst hps
    go_enter Try.func89, Try.ntmps89
    have hnil : ∀ W : World, (binOp .eql 31 (.slice none 0 0) (.slice none 0 0)).run Try.prog W = .ok (.bool true) W := fun W => Lib.run_eql_slice_nil W _ _ none 0 0 0 0 Try.underlying31
    go_wp2
    go_ret
    exact ⟨_, rfl, Pipes_nil _ _, by (repeat (first | (with_reducible assumption) | (with_reducible exact Below.refl _ _) | ((with_reducible refine Below.alloc ?_ ?hsz _); (case hsz => (first | omega | (simp; done) | (simp; omega) | (simp at *; omega)))) | ((with_reducible refine Below.setCell ?_ ?hsz _); (case hsz => (first | omega | (simp; done) | (simp; omega) | (simp at *; omega)))) | (with_reducible refine Below.drew ?_) | (with_reducible refine below_drewN ?_ _) | ((with_reducible refine Below.trans ?_ (Below.mono (by with_reducible assumption) ?hsz)); (case hsz => (first | omega | (simp; done) | (simp; omega) | (simp at *; omega))))))⟩
  · have hnil : ∀ W : World, (binOp .eql 31 (.slice (some ⟨g, 0, none⟩) ps.length cap) (.slice none 0 0)).run Try.prog W = .ok (.bool false) W := fun W => Lib.run_eql_slice_some_nil W _ _ _ Try.underlying31
    have hown0 := World.ownsRow_lit (e := 41) (base := w.heap.size) (size := 5) w #[] 0 (Nat.le_refl _) (by simp [maxLen]) rfl
    have hsrc0 : SrcOk (w.alloc (.cells #[] 41)) 5 (.slice (some ⟨g, 0, none⟩) ps.length cap) ps.length (ps.flatMap Pp.cells) := (hp.keep (by (repeat (first | (with_reducible assumption) | (with_reducible exact Below.refl _ _) | ((with_reducible refine Below.alloc ?_ ?hsz _); (case hsz => (first | omega | (simp; done) | (simp; omega) | (simp at *; omega)))) | ((with_reducible refine Below.setCell ?_ ?hsz _); (case hsz => (first | omega | (simp; done) | (simp; omega) | (simp at *; omega)))) | (with_reducible refine Below.drew ?_) | (with_reducible refine below_drewN ?_ _) | ((with_reducible refine Below.trans ?_ (Below.mono (by with_reducible assumption) ?hsz)); (case hsz => (first | omega | (simp; done) | (simp; omega) | (simp at *; omega)))))))).src
    go_enter Try.func89, Try.ntmps89
    go_wp2_with (first
      | (at_builtin
         go_must (refine wpList_append_src rfl _ _ 31 rfl w.heap.size 41 i0 _ 5 40 Try.underlying31 hi0 hz0 hz1 hz2 rfl (by omega) _ _ 0 ps.length [] _ rfl rfl hown0 hsrc0 (by unfold maxLen; omega) (by omega) (by simp) ?_)
         intro r w7 hown7 hgr7 hat7))
    go_ret
    rw [Nat.zero_add, List.nil_append] at hown7
    refine ⟨r, rfl, ⟨hown7, by unfold small; omega⟩, ?_⟩
    exact Below.grown (w := w.alloc (.cells #[] 41)) (by (repeat (first | (with_reducible assumption) | (with_reducible exact Below.refl _ _) | ((with_reducible refine Below.alloc ?_ ?hsz _); (case hsz => (first | omega | (simp; done) | (simp; omega) | (simp at *; omega)))) | ((with_reducible refine Below.setCell ?_ ?hsz _); (case hsz => (first | omega | (simp; done) | (simp; omega) | (simp at *; omega)))) | (with_reducible refine Below.drew ?_) | (with_reducible refine below_drewN ?_ _) | ((with_reducible refine Below.trans ?_ (Below.mono (by with_reducible assumption) ?hsz)); (case hsz => (first | omega | (simp; done) | (simp; omega) | (simp at *; omega))))))) hgr7 (by (first | omega | (simp; done) | (simp; omega) | (simp at *; omega))) (fun q hq => by
      have hq' : w.heap.size = q := by injection hq
      omega)

/-- what the operations of WithPipe's literal yield -/
def wpV (B z : Nat) (n q0 q1 q2 q3 q4 : Int) (ps PS : List Pp) (sv : Value) : Nat → Value → (Nat → Value) → World → Prop
  | 0, x, _, _ => x = .pointer (some ⟨z, 0, none⟩)
  | 1, x, _, _ => x = .int .i64 n
  | 2, x, _, _ => x = .pointer (some ⟨z, 1, none⟩)
  | 3, x, _, _ => x = sv
  | 4, x, _, wx => Pipes wx B x ps
  | 5, x, _, _ => x = .agg #[.int .i64 q0, .int .i64 q1, .int .i64 q2, .int .i64 q3, .int .i64 q4]
  | 6, x, _, wx => ∃ g, x = .slice (some ⟨g, 0, none⟩) 1 1 ∧ wx.heap[g]? = some (.cells #[.int .i64 q0, .int .i64 q1, .int .i64 q2, .int .i64 q3, .int .i64 q4] 41)
  | 7, x, _, wx => Pipes wx B x PS
  | 8, x, _, wx => ∃ s, x = .agg #[.int .i64 n, s] ∧ Pipes wx B s PS
  | 9, x, _, wx => ∃ g x0 x1, x = .pointer (some ⟨g, 0, none⟩) ∧ B ≤ g ∧ wx.heap[g]? = some (.cells #[x0, x1] 33)
  | 10, _, u, wx => ∃ g s, u 9 = .pointer (some ⟨g, 0, none⟩) ∧ B ≤ g ∧ Pipes wx B s PS ∧ wx.heap[g]? = some (.cells #[.int .i64 n, s] 33)
  | _, _, _, _ => True
/-- what an operation may turn -/
def wpR : Nat → World → World → Prop
  | 7, wx, wy => ∃ row, wx.grownBy wy row ∧ ∀ q, row = some q → ∃ cur, wx.heap[q]? = some (.cells cur 41 (0, 0))
  | 10, _, _ => True
  | _, wx, wy => Below wx.heap.size wx wy

end Go.Proofs.Ytnefafpfeagflaa
