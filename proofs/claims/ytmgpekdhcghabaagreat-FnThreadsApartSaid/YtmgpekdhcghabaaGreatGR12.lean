/- Plain facts. -/
import Derived.Test.YtmgpekdhcghabaaGreatD2
import Derived.Test.YtmgpekdhcghabaaGreatW1
import Derived.Test.YtmgpekdhcghabaaGreatD6
import Derived.Test.YtmgpekdhcghabaaGreatMG
import Derived.Test.YtmgpekdhcghabaaGreatGR26
import Derived.Deep.RegionHeld3
/- Contracts of the draws: a net out of a code; and the laws' fixed answer. -/
namespace Go.Proofs.YtmgpekdhcghabaaGreat
open Go.RowKit

theorem net2 : netOkB 2 [] = true := by decide
theorem net0 : netOkB 0 [] = false := by decide

set_option maxHeartbeats 1000000 in
set_option maxRecDepth 20000 in
theorem alive_any (w : World) : Calls Tryz.prog 13 #[] w fun e w' => e = .returned (.bool true) ∧ Below w.heap.size w w' := by
  have n2 := net2
  have n0 := net0
  go_enter Tryz.func13, Tryz.ntmps13
  go_wp2_with (first
    | (go_at_call 42; ((with_reducible refine (netOk_any _ _ [] 0 _ (Pipes_nil _ _)).mono ?_); rintro e w1 ⟨rfl, hb1⟩; obtain ⟨hc1, hf1, hz1⟩ := bcell hb1; (try simp at hz1); (try have hy1 : w.heap.size < w1.heap.size := by omega); (try have hy2 : w.heap.size + 1 < w1.heap.size := by omega); (try have hy3 : w.heap.size + 1 + 1 < w1.heap.size := by omega))))
  go_ret
  exact ⟨rfl, by (repeat (first | (with_reducible assumption) | (with_reducible exact Below.refl _ _) | ((with_reducible refine Below.alloc ?_ ?hsz _); (case hsz => (first | omega | (simp; done) | (simp; omega) | (simp at *; omega)))) | ((with_reducible refine Below.setCell ?_ ?hsz _); (case hsz => (first | omega | (simp; done) | (simp; omega) | (simp at *; omega)))) | (with_reducible refine Below.drew ?_) | (with_reducible refine below_drewN ?_ _) | ((with_reducible refine Below.trans ?_ (Below.mono (by with_reducible assumption) ?hsz)); (case hsz => (first | omega | (simp; done) | (simp; omega) | (simp at *; omega))))))⟩

theorem own_take {w : World} {b n size : Nat} {e : TypeId} {A : Option Addr} {c : Nat} {xs : List Value} (h : w.ownsRow b e size (.slice A n c) n xs) {k : Nat} (hk : k ≤ n) (h0 : 0 < n) : w.ownsRow b e size (.slice A k c) k (xs.take (k * size)) := by
  have hle : k * size ≤ n * size := Nat.mul_le_mul_right _ hk
  refine ⟨by rw [List.length_take, h.1]; omega, ?_⟩
  rcases h.2 with ⟨hv, h1⟩ | ⟨g, cap, cur, hv, hg, hh, h1, h2, h3, h4⟩
  · omega
  · injection hv with e1 e2 e3
    subst e1; subst e3
    exact .inr ⟨g, c, cur, rfl, hg, hh, by omega, h2, h3, by rw [← h4, List.take_take]; congr 1; omega⟩

theorem flat_take (ps : List Pp) (k : Nat) : (ps.flatMap Pp.cells).take (k * 5) = (ps.take k).flatMap Pp.cells := by
  induction ps generalizing k with
  | nil => simp
  | cons p ps ih =>
    cases k with
    | zero => simp
    | succ k =>
      have e : (k + 1) * 5 = k * 5 + 5 := by omega
      rw [e, List.take_succ_cons, List.flatMap_cons, List.flatMap_cons, ← ih k]
      simp [Pp.cells]

theorem Pipes.take {w : World} {b : Nat} {A : Option Addr} {c : Nat} {ps : List Pp} (h : Pipes w b (.slice A ps.length c) ps) {k : Nat} (hk : k ≤ ps.length) (h0 : 0 < ps.length) : Pipes w b (.slice A k c) (ps.take k) := by
  have hl : (ps.take k).length = k := by simp; omega
  refine ⟨?_, by rw [hl]; exact Nat.le_trans hk h.2⟩
  have := own_take h.1 hk h0
  rw [flat_take] at this
  rw [hl]
  exact this

end Go.Proofs.YtmgpekdhcghabaaGreat

/- Contracts of the laws' draws: two flows; a net alone; a net and a side. -/
namespace Go.Proofs.YtmgpekdhcghabaaGreat
open Go.RowKit

end Go.Proofs.YtmgpekdhcghabaaGreat

/- Contracts of what the exact laws call: equality. -/
namespace Go.Proofs.YtmgpekdhcghabaaGreat
open Go.RowKit

end Go.Proofs.YtmgpekdhcghabaaGreat

/- What the laws of promises call: equality, and a fixed answer. -/
namespace Go.Proofs.YtmgpekdhcghabaaGreat
open Go.RowKit

end Go.Proofs.YtmgpekdhcghabaaGreat

/- What the laws of promises call: a number in a list, ascending order. -/
namespace Go.Proofs.YtmgpekdhcghabaaGreat
open Go.RowKit

set_option maxHeartbeats 1000000 in
set_option maxRecDepth 20000 in
theorem hasInt_any (v : Value) (xs : List Int) (x : Int) (b : Nat) (w : World) (hx : Ints w b v xs) :
    Calls Tryz.prog 11 #[v, .int .i64 x] w fun e w' => e = .returned (.bool (decide (x ∈ xs))) ∧ Below w.heap.size w w' := by
  obtain ⟨A, c, rfl, hc1, hc2, hs, hcell⟩ := hx.form
  unfold maxLen at hc2
  go_enter Tryz.func11, Tryz.ntmps11
  go_wp2
  go_loopw [5] (fun i wr => ∃ k : Nat, k ≤ xs.length ∧ i = .int .i64 k ∧ x ∉ xs.take k ∧ Below w.heap.size w wr) (fun i _ => xs.length - (intOf i).toNat)
  case atStart => exact ⟨0, by omega, rfl, by simp, by (repeat (first | (with_reducible assumption) | (with_reducible exact Below.refl _ _) | ((with_reducible refine Below.alloc ?_ ?hsz _); (case hsz => (first | omega | (simp; done) | (simp; omega) | (simp at *; omega)))) | ((with_reducible refine Below.setCell ?_ ?hsz _); (case hsz => (first | omega | (simp; done) | (simp; omega) | (simp at *; omega)))) | (with_reducible refine Below.drew ?_) | (with_reducible refine below_drewN ?_ _) | ((with_reducible refine Below.trans ?_ (Below.mono (by with_reducible assumption) ?hsz)); (case hsz => (first | omega | (simp; done) | (simp; omega) | (simp at *; omega))))))⟩
  case round =>
    obtain ⟨k, hk, rfl, hall, hb⟩ := hrel
    have Hall := Lib.hid hall
    clear hall
    by_cases hlt : k < xs.length
    · obtain ⟨g, rfl, hg1, hg2, c0, _⟩ := hcell wr hb k hlt
      by_cases he : xs[k] = x
      · have he' : (xs[k] == x) = true := by simp [he]
        have hm : x ∈ xs := by rw [← he]; exact List.getElem_mem hlt
        have Hm := Lib.hid (show decide (x ∈ xs) = true by simpa using hm)
        clear he hm
        go_wp2
        go_ret
        exact ⟨ret_bool Hm.out.symm, by (repeat (first | (with_reducible assumption) | (with_reducible exact Below.refl _ _) | ((with_reducible refine Below.alloc ?_ ?hsz _); (case hsz => (first | omega | (simp; done) | (simp; omega) | (simp at *; omega)))) | ((with_reducible refine Below.setCell ?_ ?hsz _); (case hsz => (first | omega | (simp; done) | (simp; omega) | (simp at *; omega)))) | (with_reducible refine Below.drew ?_) | (with_reducible refine below_drewN ?_ _) | ((with_reducible refine Below.trans ?_ (Below.mono (by with_reducible assumption) ?hsz)); (case hsz => (first | omega | (simp; done) | (simp; omega) | (simp at *; omega))))))⟩
      · have he' : (xs[k] == x) = false := by simpa using he
        have Hn := Lib.hid (show x ∉ xs.take (k + 1) by
          rw [List.take_succ_eq_append_getElem hlt, List.mem_append]
          rintro (hh | hh)
          · exact Hall.out hh
          · simp at hh; exact he hh.symm)
        clear he
        go_wp2
        go_roundw
        case rel => exact ⟨k + 1, by omega, by go_num, Hn.out, by (repeat (first | (with_reducible assumption) | (with_reducible exact Below.refl _ _) | ((with_reducible refine Below.alloc ?_ ?hsz _); (case hsz => (first | omega | (simp; done) | (simp; omega) | (simp at *; omega)))) | ((with_reducible refine Below.setCell ?_ ?hsz _); (case hsz => (first | omega | (simp; done) | (simp; omega) | (simp at *; omega)))) | (with_reducible refine Below.drew ?_) | (with_reducible refine below_drewN ?_ _) | ((with_reducible refine Below.trans ?_ (Below.mono (by with_reducible assumption) ?hsz)); (case hsz => (first | omega | (simp; done) | (simp; omega) | (simp at *; omega))))))⟩
        case measure => simp [intOf]; omega
    · have Hm := Lib.hid (show decide (x ∈ xs) = false by
        have := Hall.out
        rw [List.take_of_length_le (by omega)] at this
        simpa using this)
      go_wp2
      go_ret
      exact ⟨ret_bool Hm.out.symm, by (repeat (first | (with_reducible assumption) | (with_reducible exact Below.refl _ _) | ((with_reducible refine Below.alloc ?_ ?hsz _); (case hsz => (first | omega | (simp; done) | (simp; omega) | (simp at *; omega)))) | ((with_reducible refine Below.setCell ?_ ?hsz _); (case hsz => (first | omega | (simp; done) | (simp; omega) | (simp at *; omega)))) | (with_reducible refine Below.drew ?_) | (with_reducible refine below_drewN ?_ _) | ((with_reducible refine Below.trans ?_ (Below.mono (by with_reducible assumption) ?hsz)); (case hsz => (first | omega | (simp; done) | (simp; omega) | (simp at *; omega))))))⟩

end Go.Proofs.YtmgpekdhcghabaaGreat
