/- Plain facts. -/
import Derived.Test.YtabkhpeoeihmmaaD2
import Derived.Test.YtabkhpeoeihmmaaW1
import Derived.Test.YtabkhpeoeihmmaaD3
import Derived.Test.YtabkhpeoeihmmaaS1
import Derived.Maps.AppendAt
import Derived.Deep.RegionWith
import Derived.Test.YtabkhpeoeihmmaaE2
import Derived.Test.YtabkhpeoeihmmaaR
import Derived.Deep.RegionHeld3
/- Contracts of the draws: a net out of a code; and the laws' fixed answer. -/
namespace Go.Proofs.Ytabkhpeoeihmmaa
open Go.RowKit

theorem net2 : netOkB 2 [] = true := by decide
theorem net1 : netOkB 1 [] = false := by decide
theorem net0 : netOkB 0 [] = false := by decide

set_option maxHeartbeats 1000000 in
set_option maxRecDepth 20000 in
theorem alive_any (w : World) : Calls Try.prog 36 #[] w fun e w' => e = .returned (.bool true) ∧ Below w.heap.size w w' := by
  have n2 := net2
  have n0 := net0
  go_enter Try.func36, Try.ntmps36
  go_wp2_with (first
    | (go_at_call 78; ((with_reducible refine (netOk_any _ _ [] 0 _ (Pipes_nil _ _)).mono ?_); rintro e w1 ⟨rfl, hb1⟩; obtain ⟨hc1, hf1, hz1⟩ := bcell hb1; (try simp at hz1); (try have hy1 : w.heap.size < w1.heap.size := by omega); (try have hy2 : w.heap.size + 1 < w1.heap.size := by omega); (try have hy3 : w.heap.size + 1 + 1 < w1.heap.size := by omega))))
  go_ret
  exact ⟨rfl, by (repeat (first | (with_reducible assumption) | (with_reducible exact Below.refl _ _) | ((with_reducible refine Below.alloc ?_ ?hsz _); (case hsz => (first | omega | (simp; done) | (simp; omega) | (simp at *; omega)))) | ((with_reducible refine Below.setCell ?_ ?hsz _); (case hsz => (first | omega | (simp; done) | (simp; omega) | (simp at *; omega)))) | (with_reducible refine Below.drew ?_) | (with_reducible refine below_drewN ?_ _) | ((with_reducible refine Below.trans ?_ (Below.mono (by with_reducible assumption) ?hsz)); (case hsz => (first | omega | (simp; done) | (simp; omega) | (simp at *; omega))))))⟩

theorem own_take {w : World} {b n size : Nat} {e : TypeId} {A : Option Addr} {c : Nat} {xs : List Value} (h : w.ownsRow b e size (.slice A n c) n xs) {k : Nat} (hk : k ≤ n) (h0 : 0 < n) : w.ownsRow b e size (.slice A k c) k (xs.take (k * size)) := by
  have hle : k * size ≤ n * size := Nat.mul_le_mul_right _ hk
  refine ⟨by rw [List.length_take, h.1]; omega, ?_⟩
  rcases h.2 with ⟨hv, h1⟩ | ⟨g, cap, cur, hv, hg, hh, h1, h2, h3, h4⟩
  · omega
  · injection hv with e1 e2 e3
    subst e1; subst e3
    exact .inr ⟨g, c, cur, rfl, hg, hh, by omega, h2, h3, by rw [← h4, List.take_take]; congr 1; omega⟩

theorem flat_take (ps : List Pp) (k : Nat) : (ps.flatMap Pp.cells).take (k * 5) = (ps.take k).flatMap Pp.cells := by
  induction ps generalizing k with
  | nil => simp
  | cons p ps ih =>
    cases k with
    | zero => simp
    | succ k =>
      have e : (k + 1) * 5 = k * 5 + 5 := by omega
      rw [e, List.take_succ_cons, List.flatMap_cons, List.flatMap_cons, ← ih k]
      simp [Pp.cells]

theorem Pipes.take {w : World} {b : Nat} {A : Option Addr} {c : Nat} {ps : List Pp} (h : Pipes w b (.slice A ps.length c) ps) {k : Nat} (hk : k ≤ ps.length) (h0 : 0 < ps.length) : Pipes w b (.slice A k c) (ps.take k) := by
  have hl : (ps.take k).length = k := by simp; omega
  refine ⟨?_, by rw [hl]; exact Nat.le_trans hk h.2⟩
  have := own_take h.1 hk h0
  rw [flat_take] at this
  rw [hl]
  exact this

theorem netOk_less {n : Int} {ps : List Pp} (h : netOkB n ps = true) (k : Nat) : netOkB n (ps.take k) = true := by
  obtain ⟨h1, h2, h3, h4⟩ := netOk_parts h
  simp only [netOkB, withinB, Bool.and_eq_true, decide_eq_true_eq, List.all_eq_true]
  refine ⟨⟨⟨h1, h2⟩, by simp; omega⟩, fun p hp => h4 p (List.mem_of_mem_take hp)⟩

end Go.Proofs.Ytabkhpeoeihmmaa

/- Contracts of the draws: a net and a flow. -/
namespace Go.Proofs.Ytabkhpeoeihmmaa
open Go.RowKit

theorem cell_drew {W : World} {g o : Nat} {v : Value} (h : W.cell? ⟨g, o, none⟩ = some v) : W.drew.cell? ⟨g, o, none⟩ = some v := h
section
variable {w : World} {b : Nat} {v : Value} {ps : List Pp} {xs : List Int}
theorem Pipes.alloc' (h : Pipes w b v ps) (o : Obj) : Pipes (w.alloc o) b v ps := ⟨h.1.alloc o, h.2⟩
theorem Pipes.drew' (h : Pipes w b v ps) : Pipes w.drew b v ps := h
theorem Pipes.drewN' (h : Pipes w b v ps) (n : Nat) : Pipes (w.drewN n) b v ps := h
theorem Ints.alloc' (h : Ints w b v xs) (o : Obj) : Ints (w.alloc o) b v xs := ⟨h.1.alloc o, h.2⟩
theorem Ints.drew' (h : Ints w b v xs) : Ints w.drew b v xs := h
theorem Ints.drewN' (h : Ints w b v xs) (n : Nat) : Ints (w.drewN n) b v xs := h
theorem Rd.alloc' {rg m c K : Nat} {A : Option Addr} (h : Rd w rg A m c K) (o : Obj) : Rd (w.alloc o) rg A m c K := h.keep ((Below.refl _ _).alloc (Nat.le_refl _) _)
theorem Ints.made (w : World) {n b g : Nat} (hb : b ≤ w.heap.size) (hn : n ≤ 4194304) (hg : g = w.heap.size) : Ints (w.alloc (.cells (madeCells #[.int .i64 0] n) 3)) b (.slice (some ⟨g, 0, none⟩) n n) (List.replicate n 0) := by
  subst hg
  have h := made_ints w n 3 b hb hn
  exact ⟨by simpa using h, by simpa [small] using hn⟩
end

/-- what l20Flow leaves -/
def Flowed (w : World) (rg : Nat) (A : Option Addr) (m c K : Nat) (e : Ending) (w' : World) : Prop :=
  ∃ (z : Int) (ps : List Pp) (v : Value) (xs : List Int) (u : Value), e = .returned (.tuple #[.agg #[.int .i64 z, v], u]) ∧ Pipes w' w.heap.size v ps ∧ Ints w' w.heap.size u xs ∧ Rd w' rg A m c K ∧ w.grownBy w' (some rg) ∧ ps.length ≤ 8 ∧ 1 ≤ z ∧ z ≤ 6

end Go.Proofs.Ytabkhpeoeihmmaa

/- Contracts of the laws' draws that give a net and a flow. -/
namespace Go.Proofs.Ytabkhpeoeihmmaa
open Go.RowKit

/-- what a draw of a net and a flow leaves -/
def DrawnFlow (w : World) (e : Ending) (w' : World) : Prop :=
  ∃ (z : Int) (ps : List Pp) (u : Value) (xs : List Int) (t : Value), e = .returned (.tuple #[.agg #[.int .i64 z, u], t]) ∧ Pipes w' w.heap.size u ps ∧ Ints w' w.heap.size t xs ∧ Below w.heap.size w w' ∧ ps.length ≤ 8 ∧ 1 ≤ z ∧ z ≤ 6
/-- what a draw of a net, a flow and a number leaves -/
def DrawnFlowInt (w : World) (e : Ending) (w' : World) : Prop :=
  ∃ (z : Int) (ps : List Pp) (u : Value) (xs : List Int) (t : Value) (i : Int), e = .returned (.tuple #[.agg #[.int .i64 z, u], t, .int .i64 i]) ∧ Pipes w' w.heap.size u ps ∧ Ints w' w.heap.size t xs ∧ Below w.heap.size w w' ∧ ps.length ≤ 8 ∧ 1 ≤ z ∧ z ≤ 6

end Go.Proofs.Ytabkhpeoeihmmaa

/- Contracts of the laws' draws: two flows; a net alone; a net and a side. -/
namespace Go.Proofs.Ytabkhpeoeihmmaa
open Go.RowKit

/-- what a draw of a net and two flows leaves -/
def DrawnTwo (w : World) (e : Ending) (w' : World) : Prop :=
  ∃ (z : Int) (ps : List Pp) (u : Value) (xs : List Int) (t : Value) (ys : List Int) (r : Value), e = .returned (.tuple #[.agg #[.int .i64 z, u], t, r]) ∧ Pipes w' w.heap.size u ps ∧ Ints w' w.heap.size t xs ∧ Ints w' w.heap.size r ys ∧ Below w.heap.size w w' ∧ ps.length ≤ 8 ∧ 1 ≤ z ∧ z ≤ 6
/-- what a draw of a net leaves -/
def DrawnNet (w : World) (e : Ending) (w' : World) : Prop :=
  ∃ (z : Int) (ps : List Pp) (u : Value), e = .returned (.agg #[.int .i64 z, u]) ∧ Pipes w' w.heap.size u ps ∧ Below w.heap.size w w' ∧ ps.length ≤ 8 ∧ 1 ≤ z ∧ z ≤ 6
/-- what a draw of a net and a number leaves -/
def DrawnNetInt (w : World) (e : Ending) (w' : World) : Prop :=
  ∃ (z : Int) (ps : List Pp) (u : Value) (i : Int), e = .returned (.tuple #[.agg #[.int .i64 z, u], .int .i64 i]) ∧ Pipes w' w.heap.size u ps ∧ Below w.heap.size w w' ∧ ps.length ≤ 8 ∧ 1 ≤ z ∧ z ≤ 6 ∧ -1000 ≤ i ∧ i ≤ 1000

end Go.Proofs.Ytabkhpeoeihmmaa

/- What the laws of promises call: equality, and a fixed answer. -/
namespace Go.Proofs.Ytabkhpeoeihmmaa
open Go.RowKit

theorem cell_keep {W W' : World} {g o : Nat} {v : Value} (h : W.cell? ⟨g, o, none⟩ = some v) (hb : Below W.heap.size W W') : W'.cell? ⟨g, o, none⟩ = some v :=
  (hb.cell (p := ⟨g, o, none⟩) (cell_lt h)).trans h

theorem alive_any' (w : World) : Calls Try.prog 36 #[] w fun e w' => e = .returned (.bool true) ∧ Below w.heap.size w w' := alive_any w

set_option maxHeartbeats 1000000 in
set_option maxRecDepth 20000 in
theorem sameInts_any (v u : Value) (xs ys : List Int) (b b' : Nat) (w : World) (hx : Ints w b v xs) (hy : Ints w b' u ys) :
    Calls Try.prog 42 #[v, u] w fun e w' => e = .returned (.bool (decide (xs = ys))) ∧ Below w.heap.size w w' := by
  obtain ⟨A, c, rfl, hc1, hc2, hs, hcell⟩ := hx.form
  obtain ⟨A', c', rfl, hc1', hc2', hs', hcell'⟩ := hy.form
  unfold maxLen at hc2 hc2'
  by_cases hl : xs.length = ys.length
  · have h0 : ((xs.length : Int) != (ys.length : Int)) = false := by simp [hl]
    have Hl := Lib.hid hl
    clear hl
    go_enter Try.func42, Try.ntmps42
    go_wp2
    go_loopw [5] (fun i wr => ∃ k : Nat, k ≤ xs.length ∧ i = .int .i64 k ∧ xs.take k = ys.take k ∧ Below w.heap.size w wr) (fun i _ => xs.length - (intOf i).toNat)
    case atStart => exact ⟨0, by omega, rfl, by simp, by (repeat (first | (with_reducible assumption) | (with_reducible exact Below.refl _ _) | ((with_reducible refine Below.alloc ?_ ?hsz _); (case hsz => (first | omega | (simp; done) | (simp; omega) | (simp at *; omega)))) | ((with_reducible refine Below.setCell ?_ ?hsz _); (case hsz => (first | omega | (simp; done) | (simp; omega) | (simp at *; omega)))) | (with_reducible refine Below.drew ?_) | (with_reducible refine below_drewN ?_ _) | ((with_reducible refine Below.trans ?_ (Below.mono (by with_reducible assumption) ?hsz)); (case hsz => (first | omega | (simp; done) | (simp; omega) | (simp at *; omega))))))⟩
    case round =>
      obtain ⟨k, hk, rfl, hall, hb⟩ := hrel
      have Hall := Lib.hid hall
      clear hall
      obtain ⟨hcr, hfr, hzr⟩ := bcell hb
      by_cases hlt : k < xs.length
      · have hlq : k < ys.length := by have := Hl.out; omega
        obtain ⟨g, rfl, hg1, hg2, c0, _⟩ := hcell w (Below.refl _ _) k hlt
        obtain ⟨g', rfl, hg1', hg2', d0, _⟩ := hcell' w (Below.refl _ _) k hlq
        have hgr : g < wr.heap.size := by omega
        have hgr' : g' < wr.heap.size := by omega
        go_wp2
        go_quiet (fail)
        go_wp2
        · have h1 : (xs[k] != ys[k]) = true := by assumption
          go_ret
          exact ⟨ret_bool (by
            symm; rw [decide_eq_false_iff_not]
            intro h; subst h; simp at h1), by (repeat (first | (with_reducible assumption) | (with_reducible exact Below.refl _ _) | ((with_reducible refine Below.alloc ?_ ?hsz _); (case hsz => (first | omega | (simp; done) | (simp; omega) | (simp at *; omega)))) | ((with_reducible refine Below.setCell ?_ ?hsz _); (case hsz => (first | omega | (simp; done) | (simp; omega) | (simp at *; omega)))) | (with_reducible refine Below.drew ?_) | (with_reducible refine below_drewN ?_ _) | ((with_reducible refine Below.trans ?_ (Below.mono (by with_reducible assumption) ?hsz)); (case hsz => (first | omega | (simp; done) | (simp; omega) | (simp at *; omega))))))⟩
        · have h1 : (xs[k] != ys[k]) = false := by assumption
          have h2 : xs[k] = ys[k] := by simpa using h1
          have h3 : xs.take (k + 1) = ys.take (k + 1) := by rw [List.take_succ_eq_append_getElem hlt, List.take_succ_eq_append_getElem hlq, Hall.out, h2]
          clear h2
          go_roundw
          case rel => exact ⟨k + 1, by omega, by go_num, h3, by (repeat (first | (with_reducible assumption) | (with_reducible exact Below.refl _ _) | ((with_reducible refine Below.alloc ?_ ?hsz _); (case hsz => (first | omega | (simp; done) | (simp; omega) | (simp at *; omega)))) | ((with_reducible refine Below.setCell ?_ ?hsz _); (case hsz => (first | omega | (simp; done) | (simp; omega) | (simp at *; omega)))) | (with_reducible refine Below.drew ?_) | (with_reducible refine below_drewN ?_ _) | ((with_reducible refine Below.trans ?_ (Below.mono (by with_reducible assumption) ?hsz)); (case hsz => (first | omega | (simp; done) | (simp; omega) | (simp at *; omega))))))⟩
          case measure => simp [intOf]; omega
      · go_wp2
        go_ret
        have : xs = ys := by
          have h := Hall.out
          rw [List.take_of_length_le (by omega), List.take_of_length_le (by have := Hl.out; omega)] at h
          exact h
        exact ⟨ret_bool (by simp [this]), by (repeat (first | (with_reducible assumption) | (with_reducible exact Below.refl _ _) | ((with_reducible refine Below.alloc ?_ ?hsz _); (case hsz => (first | omega | (simp; done) | (simp; omega) | (simp at *; omega)))) | ((with_reducible refine Below.setCell ?_ ?hsz _); (case hsz => (first | omega | (simp; done) | (simp; omega) | (simp at *; omega)))) | (with_reducible refine Below.drew ?_) | (with_reducible refine below_drewN ?_ _) | ((with_reducible refine Below.trans ?_ (Below.mono (by with_reducible assumption) ?hsz)); (case hsz => (first | omega | (simp; done) | (simp; omega) | (simp at *; omega))))))⟩
  · have h0 : ((xs.length : Int) != (ys.length : Int)) = true := by rw [bne_iff_ne]; omega
    have hne : decide (xs = ys) = false := by
      rw [decide_eq_false_iff_not]
      intro h; exact hl (by rw [h])
    have Hne := Lib.hid hne
    clear hl hne
    go_enter Try.func42, Try.ntmps42
    go_wp2
    go_ret
    exact ⟨ret_bool Hne.out.symm, by (repeat (first | (with_reducible assumption) | (with_reducible exact Below.refl _ _) | ((with_reducible refine Below.alloc ?_ ?hsz _); (case hsz => (first | omega | (simp; done) | (simp; omega) | (simp at *; omega)))) | ((with_reducible refine Below.setCell ?_ ?hsz _); (case hsz => (first | omega | (simp; done) | (simp; omega) | (simp at *; omega)))) | (with_reducible refine Below.drew ?_) | (with_reducible refine below_drewN ?_ _) | ((with_reducible refine Below.trans ?_ (Below.mono (by with_reducible assumption) ?hsz)); (case hsz => (first | omega | (simp; done) | (simp; omega) | (simp at *; omega))))))⟩

end Go.Proofs.Ytabkhpeoeihmmaa
