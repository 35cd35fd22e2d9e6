/- Plain facts. -/
import Derived.Test.YtmgpekdhcghabaaGreatW1
import Derived.Test.YtmgpekdhcghabaaGreatMG
import Derived.Test.YtmgpekdhcghabaaGreatGR23
import Derived.Test.YtmgpekdhcghabaaGreatGR7
import Derived.Test.YtmgpekdhcghabaaGreatGR18
import Derived.Deep.QuietTactic
import Derived.Deep.AppendLies
/- Contracts of the functions of chapter 2 in the program: nodes of a side, what leaves it, SideOk. -/
namespace Go.Proofs.YtmgpekdhcghabaaGreat
open Go.RowKit

theorem and_one (x : Int) : bits .and .i64 x 1 = x % 2 := by
  show IntKind.i64.wrap ((BitVec.ofInt 64 x &&& BitVec.ofInt 64 1).toNat : Int) = x % 2
  have h1 : (BitVec.ofInt 64 x &&& BitVec.ofInt 64 1).toNat = (BitVec.ofInt 64 x).toNat % 2 := by
    rw [BitVec.toNat_and]; exact Nat.and_two_pow_sub_one_eq_mod _ 1
  rw [h1, IntKind.wrap_i64]
  have h2 : (((BitVec.ofInt 64 x).toNat : Nat) : Int) = x % 18446744073709551616 := by
    rw [BitVec.toNat_ofInt]
    omega
  omega

set_option maxHeartbeats 400000 in
set_option maxRecDepth 20000 in
theorem hasNode_any (s k : Int) (w : World) (h0 : 0 ≤ k) (h1 : k ≤ 4) :
    Calls Tryz.prog 120 #[.int .i64 s, .int .i64 k] w fun e w' => e = .returned (.bool (bitB s k)) ∧ w = w' := by
  rcases cases5 h0 h1 with rfl | rfl | rfl | rfl | rfl
  all_goals
    go_enter Tryz.func120, Tryz.ntmps120
    go_wp2
    go_ret
    exact ⟨ret_bool (by rw [and_one]; simp [bitB, beq_dec]), rfl⟩

set_option maxHeartbeats 400000 in
set_option maxRecDepth 20000 in
theorem parts_any (s a b : Int) (w : World) (h0 : 0 ≤ a) (h1 : a ≤ 4) (h2 : 0 ≤ b) (h3 : b ≤ 4) :
    Calls Tryz.prog 87 #[.int .i64 s, .int .i64 a, .int .i64 b] w fun e w' => e = .returned (.bool (partsB s a b)) ∧ w = w' := by
  go_enter Tryz.func87, Tryz.ntmps87
  go_wp2_with (first
    | (go_at_call 120; ((with_reducible refine (hasNode_any _ _ _ (by first | exact h0 | exact h2) (by first | exact h1 | exact h3)).mono ?_); rintro e w1 ⟨rfl, rfl⟩)))
  all_goals (go_ret; exact ⟨ret_bool (by simp_all [partsB]), rfl⟩)

set_option maxHeartbeats 400000 in
set_option maxRecDepth 20000 in
theorem leaves_any (s : Int) (p : Pp) (w : World) (h0 : 0 ≤ p.fr ∧ p.fr ≤ 4 ∧ 0 ≤ p.to ∧ p.to ≤ 4) :
    Calls Tryz.prog 92 #[.int .i64 s, .agg #[.int .i64 p.fr, .int .i64 p.to, .int .i64 p.le, .int .i64 p.mo, .int .i64 p.co]] w fun e w' => e = .returned (.bool (partsB s p.fr p.to)) ∧ Below w.heap.size w w' := by
  have H := Lib.hid h0
  go_enter Tryz.func92, Tryz.ntmps92
  go_wp2_with (first
    | (go_at_call 87; ((with_reducible refine (parts_any _ _ _ _ H.out.1 H.out.2.1 H.out.2.2.1 H.out.2.2.2).mono ?_); rintro e w1 ⟨rfl, rfl⟩)))
  go_ret
  exact ⟨rfl, by (repeat (first | (with_reducible assumption) | (with_reducible exact Below.refl _ _) | ((with_reducible refine Below.alloc ?_ ?hsz _); (case hsz => (first | omega | (simp; done) | (simp; omega) | (simp at *; omega)))) | ((with_reducible refine Below.setCell ?_ ?hsz _); (case hsz => (first | omega | (simp; done) | (simp; omega) | (simp at *; omega)))) | (with_reducible refine Below.drew ?_) | (with_reducible refine below_drewN ?_ _) | ((with_reducible refine Below.trans ?_ (Below.mono (by with_reducible assumption) ?hsz)); (case hsz => (first | omega | (simp; done) | (simp; omega) | (simp at *; omega))))))⟩

theorem side_n {n : Int} {ps : List Pp} (h : netOkB n ps = true) : n = 2 ∨ n = 3 ∨ n = 4 ∨ n = 5 := by have := netOk_parts h; omega

set_option maxHeartbeats 400000 in
set_option maxRecDepth 20000 in
theorem sideOk_any (n s : Int) (v : Value) (ps : List Pp) (b : Nat) (w : World) (hp : Pipes w b v ps) :
    Calls Tryz.prog 90 #[.agg #[.int .i64 n, v], .int .i64 s] w fun e w' => e = .returned (.bool (sideB n ps s)) ∧ Below w.heap.size w w' := by
  by_cases hok : netOkB n ps = true
  · have hn := side_n hok
    have Hok := Lib.hid hok
    rcases hn with rfl | rfl | rfl | rfl
    all_goals
      go_enter Tryz.func90, Tryz.ntmps90
      go_wp2_with (first
        | (go_at_call 42; ((with_reducible refine (netOk_any _ v ps b _ (hp.keep (by (repeat (first | (with_reducible assumption) | (with_reducible exact Below.refl _ _) | ((with_reducible refine Below.alloc ?_ ?hsz _); (case hsz => (first | omega | (simp; done) | (simp; omega) | (simp at *; omega)))) | ((with_reducible refine Below.setCell ?_ ?hsz _); (case hsz => (first | omega | (simp; done) | (simp; omega) | (simp at *; omega)))) | (with_reducible refine Below.drew ?_) | (with_reducible refine below_drewN ?_ _) | ((with_reducible refine Below.trans ?_ (Below.mono (by with_reducible assumption) ?hsz)); (case hsz => (first | omega | (simp; done) | (simp; omega) | (simp at *; omega))))))))).mono ?_); rintro e w1 ⟨rfl, hb1⟩; obtain ⟨hc1, hf1, hz1⟩ := bcell hb1; (try simp at hz1); (try have hy1 : w.heap.size < w1.heap.size := by omega); (try have hy2 : w.heap.size + 1 < w1.heap.size := by omega); (try have hy3 : w.heap.size + 1 + 1 < w1.heap.size := by omega)))
        | (go_at_call 81; ((with_reducible refine (within_any _ _ _ _).mono ?_); rintro e w1 ⟨rfl, rfl⟩)))
      go_ret
      exact ⟨ret_bool (by simp [sideB, Hok.out]), by (repeat (first | (with_reducible assumption) | (with_reducible exact Below.refl _ _) | ((with_reducible refine Below.alloc ?_ ?hsz _); (case hsz => (first | omega | (simp; done) | (simp; omega) | (simp at *; omega)))) | ((with_reducible refine Below.setCell ?_ ?hsz _); (case hsz => (first | omega | (simp; done) | (simp; omega) | (simp at *; omega)))) | (with_reducible refine Below.drew ?_) | (with_reducible refine below_drewN ?_ _) | ((with_reducible refine Below.trans ?_ (Below.mono (by with_reducible assumption) ?hsz)); (case hsz => (first | omega | (simp; done) | (simp; omega) | (simp at *; omega))))))⟩
  · have hok' : netOkB n ps = false := by simpa using hok
    have Hb : Hid (sideB n ps s = false) := Lib.hid (by simp [sideB, hok'])
    clear hok
    go_enter Tryz.func90, Tryz.ntmps90
    go_wp2_with (first
      | (go_at_call 42; ((with_reducible refine (netOk_any _ v ps b _ (hp.keep (by (repeat (first | (with_reducible assumption) | (with_reducible exact Below.refl _ _) | ((with_reducible refine Below.alloc ?_ ?hsz _); (case hsz => (first | omega | (simp; done) | (simp; omega) | (simp at *; omega)))) | ((with_reducible refine Below.setCell ?_ ?hsz _); (case hsz => (first | omega | (simp; done) | (simp; omega) | (simp at *; omega)))) | (with_reducible refine Below.drew ?_) | (with_reducible refine below_drewN ?_ _) | ((with_reducible refine Below.trans ?_ (Below.mono (by with_reducible assumption) ?hsz)); (case hsz => (first | omega | (simp; done) | (simp; omega) | (simp at *; omega))))))))).mono ?_); rintro e w1 ⟨rfl, hb1⟩; obtain ⟨hc1, hf1, hz1⟩ := bcell hb1; (try simp at hz1); (try have hy1 : w.heap.size < w1.heap.size := by omega); (try have hy2 : w.heap.size + 1 < w1.heap.size := by omega); (try have hy3 : w.heap.size + 1 + 1 < w1.heap.size := by omega))))
    go_ret
    exact ⟨ret_bool Hb.out.symm, by (repeat (first | (with_reducible assumption) | (with_reducible exact Below.refl _ _) | ((with_reducible refine Below.alloc ?_ ?hsz _); (case hsz => (first | omega | (simp; done) | (simp; omega) | (simp at *; omega)))) | ((with_reducible refine Below.setCell ?_ ?hsz _); (case hsz => (first | omega | (simp; done) | (simp; omega) | (simp at *; omega)))) | (with_reducible refine Below.drew ?_) | (with_reducible refine below_drewN ?_ _) | ((with_reducible refine Below.trans ?_ (Below.mono (by with_reducible assumption) ?hsz)); (case hsz => (first | omega | (simp; done) | (simp; omega) | (simp at *; omega))))))⟩

set_option maxHeartbeats 400000 in
set_option maxRecDepth 20000 in
theorem nodeIn_any (n k : Int) (w : World) (ps : List Pp) (hok : netOkB n ps = true) :
    Calls Tryz.prog 80 #[.int .i64 n, .int .i64 k] w fun e w' => e = .returned (.bool (withinB k 0 (n - 1))) ∧ w = w' :=
  nodeOk_any n k w (by have := netOk_parts hok; omega) (by have := netOk_parts hok; omega)

set_option maxHeartbeats 400000 in
set_option maxRecDepth 20000 in
theorem endsOk_any (n i j : Int) (v : Value) (ps : List Pp) (b : Nat) (w : World) (hp : Pipes w b v ps) :
    Calls Tryz.prog 34 #[.agg #[.int .i64 n, v], .int .i64 i, .int .i64 j] w fun e w' => e = .returned (.bool (endsB n ps i j)) ∧ Below w.heap.size w w' := by
  by_cases hok : netOkB n ps = true
  · have Hok := Lib.hid hok
    go_enter Tryz.func34, Tryz.ntmps34
    go_wp2_with (first
      | (go_at_call 42; ((with_reducible refine (netOk_any _ v ps b _ (hp.keep (by (repeat (first | (with_reducible assumption) | (with_reducible exact Below.refl _ _) | ((with_reducible refine Below.alloc ?_ ?hsz _); (case hsz => (first | omega | (simp; done) | (simp; omega) | (simp at *; omega)))) | ((with_reducible refine Below.setCell ?_ ?hsz _); (case hsz => (first | omega | (simp; done) | (simp; omega) | (simp at *; omega)))) | (with_reducible refine Below.drew ?_) | (with_reducible refine below_drewN ?_ _) | ((with_reducible refine Below.trans ?_ (Below.mono (by with_reducible assumption) ?hsz)); (case hsz => (first | omega | (simp; done) | (simp; omega) | (simp at *; omega))))))))).mono ?_); rintro e w1 ⟨rfl, hb1⟩; obtain ⟨hc1, hf1, hz1⟩ := bcell hb1; (try simp at hz1); (try have hy1 : w.heap.size < w1.heap.size := by omega); (try have hy2 : w.heap.size + 1 < w1.heap.size := by omega); (try have hy3 : w.heap.size + 1 + 1 < w1.heap.size := by omega)))
      | (go_at_call 80; ((with_reducible refine (nodeIn_any _ _ _ ps Hok.out).mono ?_); rintro e w1 ⟨rfl, rfl⟩)))
    all_goals (go_ret; exact ⟨ret_bool (by simp_all [endsB, bne_dec]), by (repeat (first | (with_reducible assumption) | (with_reducible exact Below.refl _ _) | ((with_reducible refine Below.alloc ?_ ?hsz _); (case hsz => (first | omega | (simp; done) | (simp; omega) | (simp at *; omega)))) | ((with_reducible refine Below.setCell ?_ ?hsz _); (case hsz => (first | omega | (simp; done) | (simp; omega) | (simp at *; omega)))) | (with_reducible refine Below.drew ?_) | (with_reducible refine below_drewN ?_ _) | ((with_reducible refine Below.trans ?_ (Below.mono (by with_reducible assumption) ?hsz)); (case hsz => (first | omega | (simp; done) | (simp; omega) | (simp at *; omega))))))⟩)
  · have hok' : netOkB n ps = false := by simpa using hok
    have Hb : Hid (endsB n ps i j = false) := Lib.hid (by simp [endsB, hok'])
    clear hok
    go_enter Tryz.func34, Tryz.ntmps34
    go_wp2_with (first
      | (go_at_call 42; ((with_reducible refine (netOk_any _ v ps b _ (hp.keep (by (repeat (first | (with_reducible assumption) | (with_reducible exact Below.refl _ _) | ((with_reducible refine Below.alloc ?_ ?hsz _); (case hsz => (first | omega | (simp; done) | (simp; omega) | (simp at *; omega)))) | ((with_reducible refine Below.setCell ?_ ?hsz _); (case hsz => (first | omega | (simp; done) | (simp; omega) | (simp at *; omega)))) | (with_reducible refine Below.drew ?_) | (with_reducible refine below_drewN ?_ _) | ((with_reducible refine Below.trans ?_ (Below.mono (by with_reducible assumption) ?hsz)); (case hsz => (first | omega | (simp; done) | (simp; omega) | (simp at *; omega))))))))).mono ?_); rintro e w1 ⟨rfl, hb1⟩; obtain ⟨hc1, hf1, hz1⟩ := bcell hb1; (try simp at hz1); (try have hy1 : w.heap.size < w1.heap.size := by omega); (try have hy2 : w.heap.size + 1 < w1.heap.size := by omega); (try have hy3 : w.heap.size + 1 + 1 < w1.heap.size := by omega))))
    go_ret
    exact ⟨ret_bool Hb.out.symm, by (repeat (first | (with_reducible assumption) | (with_reducible exact Below.refl _ _) | ((with_reducible refine Below.alloc ?_ ?hsz _); (case hsz => (first | omega | (simp; done) | (simp; omega) | (simp at *; omega)))) | ((with_reducible refine Below.setCell ?_ ?hsz _); (case hsz => (first | omega | (simp; done) | (simp; omega) | (simp at *; omega)))) | (with_reducible refine Below.drew ?_) | (with_reducible refine below_drewN ?_ _) | ((with_reducible refine Below.trans ?_ (Below.mono (by with_reducible assumption) ?hsz)); (case hsz => (first | omega | (simp; done) | (simp; omega) | (simp at *; omega))))))⟩

end Go.Proofs.YtmgpekdhcghabaaGreat

/- Contracts of the functions of chapter 4 in the program: walks along pipes. -/
namespace Go.Proofs.YtmgpekdhcghabaaGreat
open Go.RowKit

set_option maxHeartbeats 1000000 in
set_option maxRecDepth 20000 in
theorem placeFn_any (x : Int) (bp m c : Nat) (A : Option Addr) (w : World) (d0 : w.cell? ⟨bp, 0, none⟩ = some (.slice A m c)) (hm : m ≤ 7) :
    Calls Tryz.prog 99 #[.int .i64 x, .pointer (some ⟨bp, 0, none⟩)] w fun e w' => e = .returned (.bool (!withinB x 0 ((m : Int) - 1))) ∧ w = w' := by
  go_enter Tryz.func99, Tryz.ntmps99
  go_wp2_with fail
  refine (within_any x 0 ((m : Int) - 1) _).mono ?_
  rintro e w1 ⟨rfl, rfl⟩
  go_wp2
  go_ret
  exact ⟨rfl, rfl⟩

set_option maxHeartbeats 1000000 in
set_option maxRecDepth 20000 in
theorem indexPlaces_any (u : Value) (xs : List Int) (bp m c : Nat) (A : Option Addr) (w : World) (hx : Reads w u xs) (d0 : w.cell? ⟨bp, 0, none⟩ = some (.slice A m c)) (hbp : bp < w.heap.size) (hm : m ≤ 7) :
    Calls Tryz.prog 89 #[u, .func (Fn.func 99) #[] #[.pointer (some ⟨bp, 0, none⟩)]] w fun e w' => ∃ r : Int, e = .returned (.int .i64 r) ∧ decide (0 ≤ r) = (!(xs.all fun x => withinB x 0 ((m : Int) - 1))) ∧ Below w.heap.size w w' := by
  obtain ⟨A0, c0, rfl, hc1, hc2, hs, hcell⟩ := hx.form
  unfold maxLen at hc2
  go_enter Tryz.func89, Tryz.ntmps89
  go_wp2
  go_loopw [8] (fun i wr => ∃ k : Nat, k ≤ xs.length ∧ i = .int .i64 k ∧ (∀ x ∈ xs.take k, withinB x 0 ((m : Int) - 1) = true) ∧ Below w.heap.size w wr) (fun i _ => xs.length - (intOf i).toNat)
  case atStart => exact ⟨0, by omega, rfl, by simp, Below.refl _ _⟩
  case round =>
    obtain ⟨k, hk, rfl, hall, hb⟩ := hrel
    have Hall := Lib.hid hall
    clear hall
    have hzb := hb.size
    have e0 := (hb.cell (p := ⟨bp, 0, none⟩) hbp).trans d0
    by_cases hlt : k < xs.length
    · obtain ⟨g, o, rfl, hg2, cx⟩ := hcell wr hb k hlt
      by_cases hz : withinB xs[k] 0 ((m : Int) - 1) = true
      · have Hn := Lib.hid (all_take (f := fun x : Int => withinB x 0 ((m : Int) - 1)) hlt Hall.out hz)
        go_wp2_with fail
        refine (placeFn_any xs[k] bp m c A _ (by (repeat (first | (with_reducible assumption) | ((with_reducible refine (Below.cell (by with_reducible assumption) ?hsz).trans ?_); (case hsz => (first | omega | (simp; done) | (simp; omega) | (simp at *; omega)))) | ((with_reducible refine (World.cell?_alloc_lt _ _ _ ?hsz).trans ?_); (case hsz => (first | omega | (simp; done) | (simp; omega) | (simp at *; omega)))) | ((with_reducible refine (World.cell?_setCell_other _ _ _ _ ?hsz).trans ?_); (case hsz => (intro h; injection h with h1 h2; omega)))))) hm).mono ?_
        rintro e w1 ⟨rfl, rfl⟩
        rw [hz]
        go_wp2
        go_roundw
        case rel => exact ⟨k + 1, by omega, by go_num, Hn.out, by (repeat (first | (with_reducible assumption) | (with_reducible exact Below.refl _ _) | ((with_reducible refine Below.alloc ?_ ?hsz _); (case hsz => (first | omega | (simp; done) | (simp; omega) | (simp at *; omega)))) | ((with_reducible refine Below.setCell ?_ ?hsz _); (case hsz => (first | omega | (simp; done) | (simp; omega) | (simp at *; omega)))) | (with_reducible refine Below.drew ?_) | (with_reducible refine below_drewN ?_ _) | ((with_reducible refine Below.trans ?_ (Below.mono (by with_reducible assumption) ?hsz)); (case hsz => (first | omega | (simp; done) | (simp; omega) | (simp at *; omega))))))⟩
        case measure => simp [intOf]; omega
      · have hz' : withinB xs[k] 0 ((m : Int) - 1) = false := by simpa using hz
        have Hn := Lib.hid (show (!(xs.all fun x => withinB x 0 ((m : Int) - 1))) = true by
          rw [all_no hlt (by simp [hz'])]; rfl)
        clear hz
        go_wp2_with fail
        refine (placeFn_any xs[k] bp m c A _ (by (repeat (first | (with_reducible assumption) | ((with_reducible refine (Below.cell (by with_reducible assumption) ?hsz).trans ?_); (case hsz => (first | omega | (simp; done) | (simp; omega) | (simp at *; omega)))) | ((with_reducible refine (World.cell?_alloc_lt _ _ _ ?hsz).trans ?_); (case hsz => (first | omega | (simp; done) | (simp; omega) | (simp at *; omega)))) | ((with_reducible refine (World.cell?_setCell_other _ _ _ _ ?hsz).trans ?_); (case hsz => (intro h; injection h with h1 h2; omega)))))) hm).mono ?_
        rintro e w1 ⟨rfl, rfl⟩
        rw [hz']
        go_wp2
        go_ret
        exact ⟨_, rfl, by rw [Hn.out]; simp, by (repeat (first | (with_reducible assumption) | (with_reducible exact Below.refl _ _) | ((with_reducible refine Below.alloc ?_ ?hsz _); (case hsz => (first | omega | (simp; done) | (simp; omega) | (simp at *; omega)))) | ((with_reducible refine Below.setCell ?_ ?hsz _); (case hsz => (first | omega | (simp; done) | (simp; omega) | (simp at *; omega)))) | (with_reducible refine Below.drew ?_) | (with_reducible refine below_drewN ?_ _) | ((with_reducible refine Below.trans ?_ (Below.mono (by with_reducible assumption) ?hsz)); (case hsz => (first | omega | (simp; done) | (simp; omega) | (simp at *; omega))))))⟩
    · go_wp2
      go_ret
      exact ⟨_, rfl, by rw [all_whole hlt Hall.out]; rfl, by (repeat (first | (with_reducible assumption) | (with_reducible exact Below.refl _ _) | ((with_reducible refine Below.alloc ?_ ?hsz _); (case hsz => (first | omega | (simp; done) | (simp; omega) | (simp at *; omega)))) | ((with_reducible refine Below.setCell ?_ ?hsz _); (case hsz => (first | omega | (simp; done) | (simp; omega) | (simp at *; omega)))) | (with_reducible refine Below.drew ?_) | (with_reducible refine below_drewN ?_ _) | ((with_reducible refine Below.trans ?_ (Below.mono (by with_reducible assumption) ?hsz)); (case hsz => (first | omega | (simp; done) | (simp; omega) | (simp at *; omega))))))⟩

set_option maxHeartbeats 1000000 in
set_option maxRecDepth 20000 in
theorem placesOk_any (u : Value) (xs : List Int) (m c : Nat) (A : Option Addr) (w : World) (hx : Reads w u xs) (hm : m ≤ 7) :
    Calls Tryz.prog 45 #[.slice A m c, u] w fun e w' => e = .returned (.bool (xs.all fun x => withinB x 0 ((m : Int) - 1))) ∧ Below w.heap.size w w' := by
  have hx0 := hx
  obtain ⟨A0, c0, rfl, -, -, -, -⟩ := hx.form
  go_enter Tryz.func45, Tryz.ntmps45
  go_wp2_with fail
  have hcf : Calls Tryz.prog 98 #[.slice A0 xs.length c0, .func (Fn.func 99) #[] #[.pointer (some ⟨w.heap.size, 0, none⟩)]] (w.alloc (.cells #[.slice A m c] 23)) fun e w' => e = .returned (.bool (!(xs.all fun x => withinB x 0 ((m : Int) - 1)))) ∧ Below w.heap.size w w' := by
    go_enter Tryz.func98, Tryz.ntmps98
    go_wp2_with fail
    refine (indexPlaces_any _ xs w.heap.size m c A _ (hx0.keep (by (repeat (first | (with_reducible assumption) | (with_reducible exact Below.refl _ _) | ((with_reducible refine Below.alloc ?_ ?hsz _); (case hsz => (first | omega | (simp; done) | (simp; omega) | (simp at *; omega)))) | ((with_reducible refine Below.setCell ?_ ?hsz _); (case hsz => (first | omega | (simp; done) | (simp; omega) | (simp at *; omega)))) | (with_reducible refine Below.drew ?_) | (with_reducible refine below_drewN ?_ _) | ((with_reducible refine Below.trans ?_ (Below.mono (by with_reducible assumption) ?hsz)); (case hsz => (first | omega | (simp; done) | (simp; omega) | (simp at *; omega)))))))) (by simp) (by simp) hm).mono ?_
    rintro e w1 ⟨r, rfl, hr, hb1⟩
    go_wp2
    go_ret
    exact ⟨by first | rfl | exact ret_bool hr, by (repeat (first | (with_reducible assumption) | (with_reducible exact Below.refl _ _) | ((with_reducible refine Below.alloc ?_ ?hsz _); (case hsz => (first | omega | (simp; done) | (simp; omega) | (simp at *; omega)))) | ((with_reducible refine Below.setCell ?_ ?hsz _); (case hsz => (first | omega | (simp; done) | (simp; omega) | (simp at *; omega)))) | (with_reducible refine Below.drew ?_) | (with_reducible refine below_drewN ?_ _) | ((with_reducible refine Below.trans ?_ (Below.mono (by with_reducible assumption) ?hsz)); (case hsz => (first | omega | (simp; done) | (simp; omega) | (simp at *; omega))))))⟩
  refine hcf.mono ?_
  rintro e w1 ⟨rfl, hb1⟩
  go_wp2
  go_ret
  exact ⟨ret_bool (by first | rfl | (rw [Bool.not_not])), by (repeat (first | (with_reducible assumption) | (with_reducible exact Below.refl _ _) | ((with_reducible refine Below.alloc ?_ ?hsz _); (case hsz => (first | omega | (simp; done) | (simp; omega) | (simp at *; omega)))) | ((with_reducible refine Below.setCell ?_ ?hsz _); (case hsz => (first | omega | (simp; done) | (simp; omega) | (simp at *; omega)))) | (with_reducible refine Below.drew ?_) | (with_reducible refine below_drewN ?_ _) | ((with_reducible refine Below.trans ?_ (Below.mono (by with_reducible assumption) ?hsz)); (case hsz => (first | omega | (simp; done) | (simp; omega) | (simp at *; omega))))))⟩

set_option maxHeartbeats 2000000 in
set_option maxRecDepth 20000 in
theorem walkOk_any (n : Int) (v u : Value) (ps : List Pp) (xs : List Int) (b : Nat) (w : World) (hp : Pipes w b v ps) (hx : Reads w u xs) :
    Calls Tryz.prog 35 #[.agg #[.int .i64 n, v], u] w fun e w' => e = .returned (.bool (walkB n ps xs)) ∧ Below w.heap.size w w' := by
  have hp0 := hp
  have hx0 := hx
  obtain ⟨A, c, rfl, -, -, -, -⟩ := hp.form
  obtain ⟨A0, c0, rfl, hc1, hc2, hsm, -⟩ := hx.form
  unfold maxLen at hc2
  by_cases hok : netOkB n ps = true
  · obtain ⟨n2, n5, hl7, -⟩ := netOk_parts hok
    by_cases hin : withinB xs.length 1 5 = true
    · have hin' := hin
      simp only [withinB, Bool.and_eq_true, decide_eq_true_eq] at hin'
      by_cases hpl : placesB ps xs = true
      · have hwb : walkB n ps xs = linkB ps xs := by simp [walkB, hok, hin, hpl]
        have Hw := Lib.hid hwb
        have Hpl := Lib.hid hpl
        obtain ⟨g0, o0, he, og, hcc⟩ := hx.at' (by omega)
        subst he
        have HCC := Lib.hid hcc
        clear hcc
        have bx0 := Box2.new w (.int .i64 n) (.slice A ps.length c) 25
        go_enter Tryz.func35, Tryz.ntmps35
        go_wp2_with fail
        refine (netOk_any n _ ps b _ (hp0.keep (by (repeat (first | (with_reducible assumption) | (with_reducible exact Below.refl _ _) | ((with_reducible refine Below.alloc ?_ ?hsz _); (case hsz => (first | omega | (simp; done) | (simp; omega) | (simp at *; omega)))) | ((with_reducible refine Below.setCell ?_ ?hsz _); (case hsz => (first | omega | (simp; done) | (simp; omega) | (simp at *; omega)))) | (with_reducible refine Below.drew ?_) | (with_reducible refine below_drewN ?_ _) | ((with_reducible refine Below.trans ?_ (Below.mono (by with_reducible assumption) ?hsz)); (case hsz => (first | omega | (simp; done) | (simp; omega) | (simp at *; omega))))))))).mono ?_
        rintro e w1 ⟨rfl, hb1⟩
        rw [hok]
        have bx1 := bx0.keep hb1
        have hB1 : Below w.heap.size w w1 := by (repeat (first | (with_reducible assumption) | (with_reducible exact Below.refl _ _) | ((with_reducible refine Below.alloc ?_ ?hsz _); (case hsz => (first | omega | (simp; done) | (simp; omega) | (simp at *; omega)))) | ((with_reducible refine Below.setCell ?_ ?hsz _); (case hsz => (first | omega | (simp; done) | (simp; omega) | (simp at *; omega)))) | (with_reducible refine Below.drew ?_) | (with_reducible refine below_drewN ?_ _) | ((with_reducible refine Below.trans ?_ (Below.mono (by with_reducible assumption) ?hsz)); (case hsz => (first | omega | (simp; done) | (simp; omega) | (simp at *; omega))))))
        obtain ⟨bs, d0, d1, -, -⟩ := id bx1
        clear bx0 hb1
        go_wp2_with fail
        refine (within_any (xs.length : Int) 1 5 _).mono ?_
        rintro e w2 ⟨rfl, rfl⟩
        rw [hin]
        go_wp2_with fail
        refine (placesOk_any _ xs ps.length c A _ (hx0.keep (by (repeat (first | (with_reducible assumption) | (with_reducible exact Below.refl _ _) | ((with_reducible refine Below.alloc ?_ ?hsz _); (case hsz => (first | omega | (simp; done) | (simp; omega) | (simp at *; omega)))) | ((with_reducible refine Below.setCell ?_ ?hsz _); (case hsz => (first | omega | (simp; done) | (simp; omega) | (simp at *; omega)))) | (with_reducible refine Below.drew ?_) | (with_reducible refine below_drewN ?_ _) | ((with_reducible refine Below.trans ?_ (Below.mono (by with_reducible assumption) ?hsz)); (case hsz => (first | omega | (simp; done) | (simp; omega) | (simp at *; omega)))))))) hl7).mono ?_
        rintro e w3 ⟨rfl, hb3⟩
        have hall : (xs.all fun x => withinB x 0 ((ps.length : Int) - 1)) = true := Hpl.out
        rw [hall]
        have bx3 := bx1.keep hb3
        have hB3 : Below w.heap.size w w3 := by (repeat (first | (with_reducible assumption) | (with_reducible exact Below.refl _ _) | ((with_reducible refine Below.alloc ?_ ?hsz _); (case hsz => (first | omega | (simp; done) | (simp; omega) | (simp at *; omega)))) | ((with_reducible refine Below.setCell ?_ ?hsz _); (case hsz => (first | omega | (simp; done) | (simp; omega) | (simp at *; omega)))) | (with_reducible refine Below.drew ?_) | (with_reducible refine below_drewN ?_ _) | ((with_reducible refine Below.trans ?_ (Below.mono (by with_reducible assumption) ?hsz)); (case hsz => (first | omega | (simp; done) | (simp; omega) | (simp at *; omega))))))
        clear d0 d1 hb3 hall hpl hwb
        obtain ⟨bs3, d0, d1, -, -⟩ := id bx3
        go_wp2
        all_goals
          go_loopw [26] (fun t wr => ∃ k : Nat, k ≤ xs.length - 1 ∧ t = .int .i64 k ∧ (∀ j, j < k → frI ps (xs.getD (j + 1) 0) = toI ps (xs.getD j 0)) ∧ Box2 wr w.heap.size (.int .i64 n) (.slice A ps.length c) ∧ Below w.heap.size w wr) (fun t _ => xs.length - 1 - (intOf t).toNat)
          case atStart => exact ⟨0, by omega, rfl, fun j hj => absurd hj (by omega), bx3, hB3⟩
          case round =>
            clear bs bs3 d0 d1 bx1 bx3 hB1 hB3
            obtain ⟨k, hk, rfl, hlk, bx, hB⟩ := hrel
            have HL := Lib.hid hlk
            clear hlk
            obtain ⟨bs, d0, d1, -, -⟩ := id bx
            have hzb := hB.size
            by_cases hlt : k < xs.length - 1
            · try (exfalso; omega)
              all_goals
                have hk1 : k < xs.length := by omega
                have hk2 : k + 1 < xs.length := by omega
                have cx1 := HCC.out _ hB k hk1
                have cx2 := HCC.out _ hB (k + 1) hk2
                obtain ⟨q1, hq1, hql1⟩ := place_at Hpl.out hk1
                obtain ⟨q2, hq2, hql2⟩ := place_at Hpl.out hk2
                have e1 : toI ps (xs.getD k 0) = ps[q1].to := by rw [getD_at hk1, hq1, toI_at hql1]
                have e2 : frI ps (xs.getD (k + 1) 0) = ps[q2].fr := by rw [getD_at hk2, hq2, frI_at hql2]
                rw [hq1] at cx1
                rw [hq2] at cx2
                have cx2' : wr.cell? ⟨g0, o0 + 1 + k, none⟩ = some (.int .i64 (q2 : Int)) := by rw [show o0 + 1 + k = o0 + (k + 1) by omega]; exact cx2
                obtain ⟨gp, hgp, gp1, gp2, -, f1, -, -, -⟩ := hp0.cellAt hB q1 hql1
                obtain ⟨gp', hgp', -, -, f2, -, -, -, -⟩ := hp0.cellAt hB q2 hql2
                rw [hgp] at hgp'
                injection hgp' with hgp'
                injection hgp' with hgp'
                subst hgp'
                subst hgp
                have hgw := Nat.lt_of_lt_of_le og hzb
                have hgpw := Nat.lt_of_lt_of_le gp2 hzb
                by_cases hq : ps[q2].fr = ps[q1].to
                · have hqb : (ps[q2].fr != ps[q1].to) = false := by simpa using hq
                  have HQ := Lib.hid hq
                  have HE := Lib.hid (And.intro e1 e2)
                  clear hq hq1 hq2 e1 e2
                  go_wp2_with fail
                  go_quiet (fail)
                  go_wp2
                  go_roundw
                  case rel =>
                    refine ⟨k + 1, by omega, by go_num, fun j hj => ?_, bx.keep (by (repeat (first | (with_reducible assumption) | (with_reducible exact Below.refl _ _) | ((with_reducible refine Below.alloc ?_ ?hsz _); (case hsz => (first | omega | (simp; done) | (simp; omega) | (simp at *; omega)))) | ((with_reducible refine Below.setCell ?_ ?hsz _); (case hsz => (first | omega | (simp; done) | (simp; omega) | (simp at *; omega)))) | (with_reducible refine Below.drew ?_) | (with_reducible refine below_drewN ?_ _) | ((with_reducible refine Below.trans ?_ (Below.mono (by with_reducible assumption) ?hsz)); (case hsz => (first | omega | (simp; done) | (simp; omega) | (simp at *; omega))))))), by (repeat (first | (with_reducible assumption) | (with_reducible exact Below.refl _ _) | ((with_reducible refine Below.alloc ?_ ?hsz _); (case hsz => (first | omega | (simp; done) | (simp; omega) | (simp at *; omega)))) | ((with_reducible refine Below.setCell ?_ ?hsz _); (case hsz => (first | omega | (simp; done) | (simp; omega) | (simp at *; omega)))) | (with_reducible refine Below.drew ?_) | (with_reducible refine below_drewN ?_ _) | ((with_reducible refine Below.trans ?_ (Below.mono (by with_reducible assumption) ?hsz)); (case hsz => (first | omega | (simp; done) | (simp; omega) | (simp at *; omega))))))⟩
                    rcases Nat.lt_succ_iff_lt_or_eq.1 hj with h | h
                    · exact HL.out j h
                    · subst h; rw [HE.out.1, HE.out.2]; exact HQ.out
                  case measure => simp [intOf]; omega
                · have hqb : (ps[q2].fr != ps[q1].to) = true := by simpa using hq
                  have Hno := Lib.hid (show linkB ps xs = false by
                    rw [Bool.eq_false_iff]
                    intro h
                    have := link_iff.1 h k hk2
                    rw [e1, e2] at this
                    exact hq this)
                  clear hq hq1 hq2 e1 e2
                  go_wp2_with fail
                  go_quiet (fail)
                  go_wp2
                  go_ret
                  exact ⟨ret_bool (by rw [Hw.out, Hno.out]), by (repeat (first | (with_reducible assumption) | (with_reducible exact Below.refl _ _) | ((with_reducible refine Below.alloc ?_ ?hsz _); (case hsz => (first | omega | (simp; done) | (simp; omega) | (simp at *; omega)))) | ((with_reducible refine Below.setCell ?_ ?hsz _); (case hsz => (first | omega | (simp; done) | (simp; omega) | (simp at *; omega)))) | (with_reducible refine Below.drew ?_) | (with_reducible refine below_drewN ?_ _) | ((with_reducible refine Below.trans ?_ (Below.mono (by with_reducible assumption) ?hsz)); (case hsz => (first | omega | (simp; done) | (simp; omega) | (simp at *; omega))))))⟩
            · have Hyes := Lib.hid (show linkB ps xs = true from link_iff.2 fun j hj => HL.out j (by omega))
              go_wp2
              go_ret
              exact ⟨ret_bool (by rw [Hw.out, Hyes.out]), by (repeat (first | (with_reducible assumption) | (with_reducible exact Below.refl _ _) | ((with_reducible refine Below.alloc ?_ ?hsz _); (case hsz => (first | omega | (simp; done) | (simp; omega) | (simp at *; omega)))) | ((with_reducible refine Below.setCell ?_ ?hsz _); (case hsz => (first | omega | (simp; done) | (simp; omega) | (simp at *; omega)))) | (with_reducible refine Below.drew ?_) | (with_reducible refine below_drewN ?_ _) | ((with_reducible refine Below.trans ?_ (Below.mono (by with_reducible assumption) ?hsz)); (case hsz => (first | omega | (simp; done) | (simp; omega) | (simp at *; omega))))))⟩
      · have hpl' : placesB ps xs = false := by simpa using hpl
        have Hno := Lib.hid (walk_no3 (n := n) hpl')
        have Hpl := Lib.hid hpl'
        clear hpl hpl'
        have bx0 := Box2.new w (.int .i64 n) (.slice A ps.length c) 25
        go_enter Tryz.func35, Tryz.ntmps35
        go_wp2_with fail
        refine (netOk_any n _ ps b _ (hp0.keep (by (repeat (first | (with_reducible assumption) | (with_reducible exact Below.refl _ _) | ((with_reducible refine Below.alloc ?_ ?hsz _); (case hsz => (first | omega | (simp; done) | (simp; omega) | (simp at *; omega)))) | ((with_reducible refine Below.setCell ?_ ?hsz _); (case hsz => (first | omega | (simp; done) | (simp; omega) | (simp at *; omega)))) | (with_reducible refine Below.drew ?_) | (with_reducible refine below_drewN ?_ _) | ((with_reducible refine Below.trans ?_ (Below.mono (by with_reducible assumption) ?hsz)); (case hsz => (first | omega | (simp; done) | (simp; omega) | (simp at *; omega))))))))).mono ?_
        rintro e w1 ⟨rfl, hb1⟩
        rw [hok]
        have bx1 := bx0.keep hb1
        have hB1 : Below w.heap.size w w1 := by (repeat (first | (with_reducible assumption) | (with_reducible exact Below.refl _ _) | ((with_reducible refine Below.alloc ?_ ?hsz _); (case hsz => (first | omega | (simp; done) | (simp; omega) | (simp at *; omega)))) | ((with_reducible refine Below.setCell ?_ ?hsz _); (case hsz => (first | omega | (simp; done) | (simp; omega) | (simp at *; omega)))) | (with_reducible refine Below.drew ?_) | (with_reducible refine below_drewN ?_ _) | ((with_reducible refine Below.trans ?_ (Below.mono (by with_reducible assumption) ?hsz)); (case hsz => (first | omega | (simp; done) | (simp; omega) | (simp at *; omega))))))
        obtain ⟨bs, d0, d1, -, -⟩ := id bx1
        clear bx0 hb1
        go_wp2_with fail
        refine (within_any (xs.length : Int) 1 5 _).mono ?_
        rintro e w2 ⟨rfl, rfl⟩
        rw [hin]
        go_wp2_with fail
        refine (placesOk_any _ xs ps.length c A _ (hx0.keep (by (repeat (first | (with_reducible assumption) | (with_reducible exact Below.refl _ _) | ((with_reducible refine Below.alloc ?_ ?hsz _); (case hsz => (first | omega | (simp; done) | (simp; omega) | (simp at *; omega)))) | ((with_reducible refine Below.setCell ?_ ?hsz _); (case hsz => (first | omega | (simp; done) | (simp; omega) | (simp at *; omega)))) | (with_reducible refine Below.drew ?_) | (with_reducible refine below_drewN ?_ _) | ((with_reducible refine Below.trans ?_ (Below.mono (by with_reducible assumption) ?hsz)); (case hsz => (first | omega | (simp; done) | (simp; omega) | (simp at *; omega)))))))) hl7).mono ?_
        rintro e w3 ⟨rfl, hb3⟩
        have hall : (xs.all fun x => withinB x 0 ((ps.length : Int) - 1)) = false := Hpl.out
        rw [hall]
        go_wp2
        go_ret
        exact ⟨ret_bool Hno.out.symm, by (repeat (first | (with_reducible assumption) | (with_reducible exact Below.refl _ _) | ((with_reducible refine Below.alloc ?_ ?hsz _); (case hsz => (first | omega | (simp; done) | (simp; omega) | (simp at *; omega)))) | ((with_reducible refine Below.setCell ?_ ?hsz _); (case hsz => (first | omega | (simp; done) | (simp; omega) | (simp at *; omega)))) | (with_reducible refine Below.drew ?_) | (with_reducible refine below_drewN ?_ _) | ((with_reducible refine Below.trans ?_ (Below.mono (by with_reducible assumption) ?hsz)); (case hsz => (first | omega | (simp; done) | (simp; omega) | (simp at *; omega))))))⟩
    · have hin' : withinB xs.length 1 5 = false := by simpa using hin
      have Hno := Lib.hid (walk_no2 (n := n) (ps := ps) hin')
      clear hin
      go_enter Tryz.func35, Tryz.ntmps35
      go_wp2_with fail
      refine (netOk_any n _ ps b _ (hp0.keep (by (repeat (first | (with_reducible assumption) | (with_reducible exact Below.refl _ _) | ((with_reducible refine Below.alloc ?_ ?hsz _); (case hsz => (first | omega | (simp; done) | (simp; omega) | (simp at *; omega)))) | ((with_reducible refine Below.setCell ?_ ?hsz _); (case hsz => (first | omega | (simp; done) | (simp; omega) | (simp at *; omega)))) | (with_reducible refine Below.drew ?_) | (with_reducible refine below_drewN ?_ _) | ((with_reducible refine Below.trans ?_ (Below.mono (by with_reducible assumption) ?hsz)); (case hsz => (first | omega | (simp; done) | (simp; omega) | (simp at *; omega))))))))).mono ?_
      rintro e w1 ⟨rfl, hb1⟩
      rw [hok]
      go_wp2_with fail
      refine (within_any (xs.length : Int) 1 5 _).mono ?_
      rintro e w2 ⟨rfl, rfl⟩
      rw [hin']
      go_wp2
      go_ret
      exact ⟨ret_bool Hno.out.symm, by (repeat (first | (with_reducible assumption) | (with_reducible exact Below.refl _ _) | ((with_reducible refine Below.alloc ?_ ?hsz _); (case hsz => (first | omega | (simp; done) | (simp; omega) | (simp at *; omega)))) | ((with_reducible refine Below.setCell ?_ ?hsz _); (case hsz => (first | omega | (simp; done) | (simp; omega) | (simp at *; omega)))) | (with_reducible refine Below.drew ?_) | (with_reducible refine below_drewN ?_ _) | ((with_reducible refine Below.trans ?_ (Below.mono (by with_reducible assumption) ?hsz)); (case hsz => (first | omega | (simp; done) | (simp; omega) | (simp at *; omega))))))⟩
  · have hok' : netOkB n ps = false := by simpa using hok
    have Hno := Lib.hid (walk_no1 (xs := xs) hok')
    clear hok
    go_enter Tryz.func35, Tryz.ntmps35
    go_wp2_with fail
    refine (netOk_any n _ ps b _ (hp0.keep (by (repeat (first | (with_reducible assumption) | (with_reducible exact Below.refl _ _) | ((with_reducible refine Below.alloc ?_ ?hsz _); (case hsz => (first | omega | (simp; done) | (simp; omega) | (simp at *; omega)))) | ((with_reducible refine Below.setCell ?_ ?hsz _); (case hsz => (first | omega | (simp; done) | (simp; omega) | (simp at *; omega)))) | (with_reducible refine Below.drew ?_) | (with_reducible refine below_drewN ?_ _) | ((with_reducible refine Below.trans ?_ (Below.mono (by with_reducible assumption) ?hsz)); (case hsz => (first | omega | (simp; done) | (simp; omega) | (simp at *; omega))))))))).mono ?_
    rintro e w1 ⟨rfl, hb1⟩
    rw [hok']
    go_wp2
    go_ret
    exact ⟨ret_bool Hno.out.symm, by (repeat (first | (with_reducible assumption) | (with_reducible exact Below.refl _ _) | ((with_reducible refine Below.alloc ?_ ?hsz _); (case hsz => (first | omega | (simp; done) | (simp; omega) | (simp at *; omega)))) | ((with_reducible refine Below.setCell ?_ ?hsz _); (case hsz => (first | omega | (simp; done) | (simp; omega) | (simp at *; omega)))) | (with_reducible refine Below.drew ?_) | (with_reducible refine below_drewN ?_ _) | ((with_reducible refine Below.trans ?_ (Below.mono (by with_reducible assumption) ?hsz)); (case hsz => (first | omega | (simp; done) | (simp; omega) | (simp at *; omega))))))⟩

end Go.Proofs.YtmgpekdhcghabaaGreat

/- Contracts of the functions of chapter 4 in the program: the nodes along a walk. -/
namespace Go.Proofs.YtmgpekdhcghabaaGreat
open Go.RowKit

theorem take_getD {L : List Int} {j : Nat} (h : j < L.length) : L.take (j + 1) = L.take j ++ [L.getD j 0] := by
  rw [List.take_succ_eq_append_getElem h]
  simp [List.getD_eq_getElem?_getD, h]

set_option maxHeartbeats 1000000 in
set_option maxRecDepth 20000 in
theorem indexPre_any (x : Int) (g k c : Nat) (L : List Int) (w : World) (hL : ∀ j, j < k → w.cell? ⟨g, j, none⟩ = some (.int .i64 (L.getD j 0))) (hg : g < w.heap.size) (hk : k ≤ L.length) (hk6 : k ≤ 6) (hc : k ≤ c) (hc2 : c ≤ maxLen) :
    Calls Tryz.prog 100 #[.slice (some ⟨g, 0, none⟩) k c, .int .i64 x] w fun e w' => ∃ r : Int, e = .returned (.int .i64 r) ∧ ((r = -1 ∧ x ∉ L.take k) ∨ (∃ j : Nat, r = (j : Int) ∧ j < k ∧ L.getD j 0 = x ∧ x ∉ L.take j)) ∧ Below w.heap.size w w' := by
  unfold maxLen at hc2
  have HL := Lib.hid hL
  clear hL
  go_enter Tryz.func100, Tryz.ntmps100
  go_wp2
  go_loopw [8] (fun i wr => ∃ j : Nat, j ≤ k ∧ i = .int .i64 j ∧ x ∉ L.take j ∧ Below w.heap.size w wr) (fun i _ => k - (intOf i).toNat)
  case atStart => exact ⟨0, by omega, rfl, by simp, Below.refl _ _⟩
  case round =>
    obtain ⟨j, hj, rfl, hall, hb⟩ := hrel
    have Hall := Lib.hid hall
    clear hall
    have hzb := hb.size
    by_cases hlt : j < k
    · have cx := (hb.cell (p := ⟨g, j, none⟩) hg).trans (HL.out j hlt)
      have hjl : j < L.length := by omega
      have Ht := Lib.hid (take_getD hjl)
      generalize hy : L.getD j 0 = y at *
      have hgr : g < wr.heap.size := by omega
      by_cases hxy : x = y
      · have hxb : (x == y) = true := by simpa using hxy
        have Hy := Lib.hid (And.intro hy hxy)
        clear hxy hy
        go_wp2
        go_ret
        exact ⟨_, rfl, .inr ⟨j, rfl, hlt, by rw [Hy.out.1, Hy.out.2], Hall.out⟩, by (repeat (first | (with_reducible assumption) | (with_reducible exact Below.refl _ _) | ((with_reducible refine Below.alloc ?_ ?hsz _); (case hsz => (first | omega | (simp; done) | (simp; omega) | (simp at *; omega)))) | ((with_reducible refine Below.setCell ?_ ?hsz _); (case hsz => (first | omega | (simp; done) | (simp; omega) | (simp at *; omega)))) | (with_reducible refine Below.drew ?_) | (with_reducible refine below_drewN ?_ _) | ((with_reducible refine Below.trans ?_ (Below.mono (by with_reducible assumption) ?hsz)); (case hsz => (first | omega | (simp; done) | (simp; omega) | (simp at *; omega))))))⟩
      · have hxb : (x == y) = false := by simpa using hxy
        have Hn := Lib.hid (show x ∉ L.take (j + 1) by
          rw [Ht.out, List.mem_append]
          rintro (h | h)
          · exact Hall.out h
          · simp at h; exact hxy h)
        clear hxy hy
        go_wp2
        go_roundw
        case rel => exact ⟨j + 1, by omega, by go_num, Hn.out, by (repeat (first | (with_reducible assumption) | (with_reducible exact Below.refl _ _) | ((with_reducible refine Below.alloc ?_ ?hsz _); (case hsz => (first | omega | (simp; done) | (simp; omega) | (simp at *; omega)))) | ((with_reducible refine Below.setCell ?_ ?hsz _); (case hsz => (first | omega | (simp; done) | (simp; omega) | (simp at *; omega)))) | (with_reducible refine Below.drew ?_) | (with_reducible refine below_drewN ?_ _) | ((with_reducible refine Below.trans ?_ (Below.mono (by with_reducible assumption) ?hsz)); (case hsz => (first | omega | (simp; done) | (simp; omega) | (simp at *; omega))))))⟩
        case measure => simp [intOf]; omega
    · have hjk : j = k := by omega
      subst hjk
      go_wp2
      go_ret
      exact ⟨_, rfl, .inl ⟨rfl, Hall.out⟩, hb⟩

set_option maxHeartbeats 1000000 in
set_option maxRecDepth 20000 in
theorem containsPre_any (x : Int) (g k c : Nat) (L : List Int) (w : World) (hL : ∀ j, j < k → w.cell? ⟨g, j, none⟩ = some (.int .i64 (L.getD j 0))) (hg : g < w.heap.size) (hk : k ≤ L.length) (hk6 : k ≤ 6) (hc : k ≤ c) (hc2 : c ≤ maxLen) :
    Calls Tryz.prog 48 #[.slice (some ⟨g, 0, none⟩) k c, .int .i64 x] w fun e w' => e = .returned (.bool (decide (x ∈ L.take k))) ∧ Below w.heap.size w w' := by
  have hc2' := hc2
  unfold maxLen at hc2
  go_enter Tryz.func48, Tryz.ntmps48
  go_wp2_with fail
  refine (indexPre_any x g k c L _ hL hg hk hk6 hc hc2').mono ?_
  rintro e w1 ⟨r, rfl, hr, hb1⟩
  have hr2 : decide (0 ≤ r) = decide (x ∈ L.take k) := by
    rcases hr with ⟨rfl, h⟩ | ⟨j, rfl, h1, h2, -⟩
    · simp [h]
    · have : x ∈ L.take k := by
        rw [List.mem_take_iff_getElem]
        exact ⟨j, by omega, by rw [← h2]; simp [List.getD_eq_getElem?_getD, show j < L.length by omega]⟩
      simp [this]
  have Hr := Lib.hid hr2
  clear hr hr2
  go_wp2
  go_ret
  exact ⟨by first | exact ret_bool Hr.out | rfl, by (repeat (first | (with_reducible assumption) | (with_reducible exact Below.refl _ _) | ((with_reducible refine Below.alloc ?_ ?hsz _); (case hsz => (first | omega | (simp; done) | (simp; omega) | (simp at *; omega)))) | ((with_reducible refine Below.setCell ?_ ?hsz _); (case hsz => (first | omega | (simp; done) | (simp; omega) | (simp at *; omega)))) | (with_reducible refine Below.drew ?_) | (with_reducible refine below_drewN ?_ _) | ((with_reducible refine Below.trans ?_ (Below.mono (by with_reducible assumption) ?hsz)); (case hsz => (first | omega | (simp; done) | (simp; omega) | (simp at *; omega))))))⟩

set_option maxHeartbeats 1000000 in
set_option maxRecDepth 20000 in
theorem allDiffer_any (g m c : Nat) (L : List Int) (w : World) (hL : ∀ j, j < m → w.cell? ⟨g, j, none⟩ = some (.int .i64 (L.getD j 0))) (hg : g < w.heap.size) (hm : m ≤ L.length) (hm6 : m ≤ 6) (hc : m ≤ c) (hc2 : c ≤ maxLen) :
    Calls Tryz.prog 37 #[.slice (some ⟨g, 0, none⟩) m c] w fun e w' => e = .returned (.bool (decide (L.take m).Nodup)) ∧ Below w.heap.size w w' := by
  have hc2' := hc2
  unfold maxLen at hc2
  have HL := Lib.hid hL
  clear hL
  go_enter Tryz.func37, Tryz.ntmps37
  go_wp2
  go_loopw [7] (fun i wr => ∃ j : Nat, j ≤ m ∧ i = .int .i64 j ∧ (L.take j).Nodup ∧ Below w.heap.size w wr) (fun i _ => m - (intOf i).toNat)
  case atStart => exact ⟨0, by omega, rfl, by simp, Below.refl _ _⟩
  case round =>
    obtain ⟨j, hj, rfl, hall, hb⟩ := hrel
    have Hall := Lib.hid hall
    clear hall
    have hzb := hb.size
    by_cases hlt : j < m
    · have cx := (hb.cell (p := ⟨g, j, none⟩) hg).trans (HL.out j hlt)
      have hjl : j < L.length := by omega
      have Ht := Lib.hid (take_getD hjl)
      have hgr : g < wr.heap.size := by omega
      have Hc : Hid (∀ i, i < j → wr.cell? ⟨g, i, none⟩ = some (.int .i64 (L.getD i 0))) := Lib.hid fun i hi => (hb.cell (p := ⟨g, i, none⟩) hg).trans (HL.out i (by omega))
      generalize hy : L.getD j 0 = y at *
      by_cases hxy : y ∈ L.take j
      · have Hn := Lib.hid (show decide (L.take m).Nodup = false by
          rw [decide_eq_false_iff_not]
          intro h
          have h2 : (L.take (j + 1)).Nodup := by
            rw [show L.take (j + 1) = (L.take m).take (j + 1) by rw [List.take_take]; congr 1; omega]
            exact h.sublist (List.take_sublist _ _)
          rw [Ht.out, nodup_snoc] at h2
          exact h2.2 hxy)
        go_wp2_with fail
        all_goals
          refine (containsPre_any y g j c L _ Hc.out hgr (by omega) (by omega) (by omega) hc2').mono ?_
          rintro e w1 ⟨rfl, hb1⟩
          rw [decide_eq_true hxy]
          go_wp2
          go_ret
          exact ⟨ret_bool Hn.out.symm, by (repeat (first | (with_reducible assumption) | (with_reducible exact Below.refl _ _) | ((with_reducible refine Below.alloc ?_ ?hsz _); (case hsz => (first | omega | (simp; done) | (simp; omega) | (simp at *; omega)))) | ((with_reducible refine Below.setCell ?_ ?hsz _); (case hsz => (first | omega | (simp; done) | (simp; omega) | (simp at *; omega)))) | (with_reducible refine Below.drew ?_) | (with_reducible refine below_drewN ?_ _) | ((with_reducible refine Below.trans ?_ (Below.mono (by with_reducible assumption) ?hsz)); (case hsz => (first | omega | (simp; done) | (simp; omega) | (simp at *; omega))))))⟩
      · have Hn := Lib.hid (show (L.take (j + 1)).Nodup by rw [Ht.out, nodup_snoc]; exact ⟨Hall.out, hxy⟩)
        go_wp2_with fail
        all_goals
          refine (containsPre_any y g j c L _ Hc.out hgr (by omega) (by omega) (by omega) hc2').mono ?_
          rintro e w1 ⟨rfl, hb1⟩
          rw [decide_eq_false hxy]
          go_wp2
          go_roundw
          case rel => exact ⟨j + 1, by omega, by go_num, Hn.out, by (repeat (first | (with_reducible assumption) | (with_reducible exact Below.refl _ _) | ((with_reducible refine Below.alloc ?_ ?hsz _); (case hsz => (first | omega | (simp; done) | (simp; omega) | (simp at *; omega)))) | ((with_reducible refine Below.setCell ?_ ?hsz _); (case hsz => (first | omega | (simp; done) | (simp; omega) | (simp at *; omega)))) | (with_reducible refine Below.drew ?_) | (with_reducible refine below_drewN ?_ _) | ((with_reducible refine Below.trans ?_ (Below.mono (by with_reducible assumption) ?hsz)); (case hsz => (first | omega | (simp; done) | (simp; omega) | (simp at *; omega))))))⟩
          case measure => simp [intOf]; omega
    · have hjk : j = m := by omega
      subst hjk
      go_wp2
      go_ret
      exact ⟨ret_bool (decide_eq_true Hall.out).symm, hb⟩

set_option maxHeartbeats 2000000 in
set_option maxRecDepth 20000 in
theorem nodesFn_any (g n cap B q bp gp m c : Nat) (y : Int) (L : List Int) (w : World) (hR : Row w B g n cap L) (hq : q < m) (f : w.cell? ⟨gp, q * 5 + 1, none⟩ = some (.int .i64 y))
    (d0 : w.cell? ⟨bp, 0, none⟩ = some (.slice (some ⟨gp, 0, none⟩) m c)) (hB : B ≤ w.heap.size) (hn : n ≤ 6) :
    Calls Tryz.prog 83 #[.slice (some ⟨g, 0, none⟩) n cap, .int .i64 q, .pointer (some ⟨bp, 0, none⟩)] w fun e w' => ∃ g2 cap2 : Nat, e = .returned (.slice (some ⟨g2, 0, none⟩) (n + 1) cap2) ∧ Row w' B g2 (n + 1) cap2 (L ++ [y]) ∧ Below B w w' := by
  obtain ⟨i0, hi0, hz0, hz1, hz2⟩ := info_parts int_info
  obtain ⟨hg1, hg2⟩ := hR.lt
  have hR1 := hR.1
  have hrow : ∀ q', (Value.slice (some ⟨g, 0, none⟩) n cap).ownBlock = some q' → B ≤ q' := fun q' hq => (hR1.lt q' hq).1
  go_enter Tryz.func83, Tryz.ntmps83
  go_wp2_with (first
    | (at_builtin
       go_must (refine wpList_append_lies _ rfl _ _ 30 rfl B 3 i0 _ 1 8 Tryz.underlying30 hi0 hz0 hz1 hz2 rfl (by omega) (.slice (some ⟨g, 0, none⟩) n cap) n _ rfl (hR1.alloc _) ⟨w.heap.size, 0, none⟩ 1 1 [.int .i64 y] rfl rfl (World.news_of_block (cs := #[.int .i64 y]) (t := 3) (fr := (0, 0)) (heap_alloc_new _ _)) (by simp [Value.oneCell']) (by omega) (by unfold maxLen; omega) (by omega) (by simp; omega) _ rfl ?_)
       intro g2 k2 w7 hown7 hgr7 hat7 hlt7))
  go_ret
  refine ⟨g2, k2, rfl, ⟨by rw [List.map_append]; exact hown7, by unfold small; omega⟩, ?_⟩
  exact Below.grown (w := w.alloc (.cells #[.int .i64 y] 3)) (by (repeat (first | (with_reducible assumption) | (with_reducible exact Below.refl _ _) | ((with_reducible refine Below.alloc ?_ ?hsz _); (case hsz => (first | omega | (simp; done) | (simp; omega) | (simp at *; omega)))) | ((with_reducible refine Below.setCell ?_ ?hsz _); (case hsz => (first | omega | (simp; done) | (simp; omega) | (simp at *; omega)))) | (with_reducible refine Below.drew ?_) | (with_reducible refine below_drewN ?_ _) | ((with_reducible refine Below.trans ?_ (Below.mono (by with_reducible assumption) ?hsz)); (case hsz => (first | omega | (simp; done) | (simp; omega) | (simp at *; omega))))))) hgr7 (by (first | omega | (simp; done) | (simp; omega) | (simp at *; omega))) hrow

set_option maxHeartbeats 2000000 in
set_option maxRecDepth 20000 in
theorem foldNodes_any (bp gp gl cap b c : Nat) (f0 : Int) (u0 : Value) (xs : List Int) (ps : List Pp) (w0 w : World) (hb0 : Below w0.heap.size w0 w) (h0 : Reads w0 u0 xs) (hp : Pipes w0 b (.slice (some ⟨gp, 0, none⟩) ps.length c) ps) (hR : Row w w0.heap.size gl 1 cap [f0]) (hpl : placesB ps xs = true) (h5 : xs.length ≤ 5)
    (hbp : bp < w0.heap.size) (d0 : w0.cell? ⟨bp, 0, none⟩ = some (.slice (some ⟨gp, 0, none⟩) ps.length c)) :
    Calls Tryz.prog 82 #[u0, .slice (some ⟨gl, 0, none⟩) 1 cap, .func (Fn.func 83) #[] #[.pointer (some ⟨bp, 0, none⟩)]] w fun e w' => ∃ g2 cap2 : Nat, e = .returned (.slice (some ⟨g2, 0, none⟩) (xs.length + 1) cap2) ∧ Row w' w0.heap.size g2 (xs.length + 1) cap2 (f0 :: xs.map (toI ps)) ∧ Below w0.heap.size w0 w' := by
  obtain ⟨A, ca, rfl, hc1, hc2, hsm, hcell⟩ := h0.form
  unfold maxLen at hc2
  have HPL := Lib.hid hpl
  clear hpl
  go_enter Tryz.func82, Tryz.ntmps82
  go_wp2
  go_loopw [11, 1] (fun i t wr => ∃ k g n1 cap1 : Nat, k ≤ xs.length ∧ i = .int .i64 k ∧ n1 = k + 1 ∧ t = .slice (some ⟨g, 0, none⟩) n1 cap1 ∧ Row wr w0.heap.size g n1 cap1 (f0 :: (xs.take k).map (toI ps)) ∧ Below w0.heap.size w0 wr) (fun i _ _ => xs.length - (intOf i).toNat)
  case atStart => exact ⟨0, gl, 1, cap, by omega, rfl, rfl, rfl, hR, hb0⟩
  case round =>
    clear hR hb0
    obtain ⟨k, g, n1, cap1, hk, rfl, hn1, rfl, hR, hb⟩ := hrel
    have hzb := hb.size
    by_cases hlt : k < xs.length
    · obtain ⟨gx, ox, rfl, hg2, cx⟩ := hcell wr hb k hlt
      obtain ⟨q, hq, hql⟩ := place_at HPL.out hlt
      rw [hq] at cx
      obtain ⟨gp', hgp', -, gp2, -, f1, -, -, -⟩ := hp.cellAt hb q hql
      injection hgp' with hgp'
      injection hgp' with hgp'
      subst hgp'
      have e0 := (hb.cell (p := ⟨bp, 0, none⟩) hbp).trans d0
      have Hn := Lib.hid (show f0 :: (xs.take (k + 1)).map (toI ps) = (f0 :: (xs.take k).map (toI ps)) ++ [ps[q].to] by
        rw [List.take_succ_eq_append_getElem hlt, List.map_append, hq, ← toI_at hql]; rfl)
      clear hq
      subst hn1
      go_wp2_with fail
      with_reducible refine (nodesFn_any g (k + 1) cap1 w0.heap.size q bp gp ps.length c ps[q].to _ _ hR hql f1 e0 hzb (by omega)).mono ?_
      rintro e w2 ⟨g2, cap2, rfl, hR2, hb2⟩
      rw [← Hn.out] at hR2
      have hbw := hb.trans hb2
      clear hR hb hb2 e0 cx f1
      go_wp2
      go_roundw
      case rel => exact ⟨k + 1, g2, k + 1 + 1, cap2, by omega, by go_num, rfl, rfl, hR2, hbw⟩
      case measure => simp [intOf]; omega
    · have hk2 : k = xs.length := by omega
      subst hk2
      rw [List.take_length] at hR
      subst hn1
      go_wp2
      go_ret
      exact ⟨g, cap1, rfl, hR, hb⟩

set_option maxHeartbeats 2000000 in
set_option maxRecDepth 20000 in
theorem nodesAlong_any (v u : Value) (xs : List Int) (ps : List Pp) (b : Nat) (w : World) (hp : Pipes w b v ps) (hx : Reads w u xs) (hpl : placesB ps xs = true) (h1 : 1 ≤ xs.length) (h5 : xs.length ≤ 5) :
    Calls Tryz.prog 36 #[v, u] w fun e w' => ∃ g cap : Nat, e = .returned (.slice (some ⟨g, 0, none⟩) (xs.length + 1) cap) ∧ Row w' w.heap.size g (xs.length + 1) cap (nodesI ps xs) ∧ Below w.heap.size w w' := by
  have hp0 := hp
  have hx0 := hx
  obtain ⟨A, c, rfl, -, -, -, -⟩ := hp.form
  obtain ⟨A0, c0, rfl, hc1, hc2, hsm, hcell⟩ := hx.form
  unfold maxLen at hc2
  have h0 : 0 < xs.length := by omega
  obtain ⟨gx, ox, rfl, gx2, cx⟩ := hcell w (Below.refl _ _) 0 h0
  rw [Nat.add_zero] at cx
  obtain ⟨q, hq, hql⟩ := place_at hpl h0
  rw [hq] at cx
  obtain ⟨gp, rfl, gp1, gp2, f0, -, -, -, -⟩ := hp.cellAt (Below.refl _ _) q hql
  have Hf := Lib.hid (show nodesI ps xs = ps[q].fr :: xs.map (toI ps) by rw [nodesI, getD_at h0, hq, frI_at hql])
  have HPL := Lib.hid hpl
  clear hq hpl
  go_enter Tryz.func36, Tryz.ntmps36
  go_wp2_with fail
  go_region
  all_goals
    have hown := World.ownsRow_lit (e := 3) (base := (w.alloc (.cells #[.slice (some ⟨gp, 0, none⟩) ps.length c] 23)).heap.size) (size := 1) (w.alloc (.cells #[.slice (some ⟨gp, 0, none⟩) ps.length c] 23)) #[.int .i64 ps[q].fr] 1 (Nat.le_refl _) (by simp [maxLen]) rfl
    rw [World.size_alloc] at hown
    have hR : Row _ (w.heap.size + 1) (w.heap.size + 1) 1 1 [ps[q].fr] := ⟨own_keep hown (Nat.le_refl _) (Below.drew (Below.refl _ _)), by simp [small]⟩
    go_wp2_with fail
    refine (foldNodes_any w.heap.size gp (w.heap.size + 1) 1 b c ps[q].fr _ xs ps (w.alloc (.cells #[.slice (some ⟨gp, 0, none⟩) ps.length c] 23)) _ (by (repeat (first | (with_reducible assumption) | (with_reducible exact Below.refl _ _) | ((with_reducible refine Below.alloc ?_ ?hsz _); (case hsz => (first | omega | (simp; done) | (simp; omega) | (simp at *; omega)))) | ((with_reducible refine Below.setCell ?_ ?hsz _); (case hsz => (first | omega | (simp; done) | (simp; omega) | (simp at *; omega)))) | (with_reducible refine Below.drew ?_) | (with_reducible refine below_drewN ?_ _) | ((with_reducible refine Below.trans ?_ (Below.mono (by with_reducible assumption) ?hsz)); (case hsz => (first | omega | (simp; done) | (simp; omega) | (simp at *; omega))))))) (hx0.keep (by (repeat (first | (with_reducible assumption) | (with_reducible exact Below.refl _ _) | ((with_reducible refine Below.alloc ?_ ?hsz _); (case hsz => (first | omega | (simp; done) | (simp; omega) | (simp at *; omega)))) | ((with_reducible refine Below.setCell ?_ ?hsz _); (case hsz => (first | omega | (simp; done) | (simp; omega) | (simp at *; omega)))) | (with_reducible refine Below.drew ?_) | (with_reducible refine below_drewN ?_ _) | ((with_reducible refine Below.trans ?_ (Below.mono (by with_reducible assumption) ?hsz)); (case hsz => (first | omega | (simp; done) | (simp; omega) | (simp at *; omega)))))))) (hp0.keep (by (repeat (first | (with_reducible assumption) | (with_reducible exact Below.refl _ _) | ((with_reducible refine Below.alloc ?_ ?hsz _); (case hsz => (first | omega | (simp; done) | (simp; omega) | (simp at *; omega)))) | ((with_reducible refine Below.setCell ?_ ?hsz _); (case hsz => (first | omega | (simp; done) | (simp; omega) | (simp at *; omega)))) | (with_reducible refine Below.drew ?_) | (with_reducible refine below_drewN ?_ _) | ((with_reducible refine Below.trans ?_ (Below.mono (by with_reducible assumption) ?hsz)); (case hsz => (first | omega | (simp; done) | (simp; omega) | (simp at *; omega)))))))) (by rw [World.size_alloc]; exact hR) HPL.out h5 (by simp) (by simp)).mono ?_
    rintro e w2 ⟨g2, cap2, rfl, hR2, hb2⟩
    go_wp2
    go_ret
    refine ⟨g2, cap2, rfl, ?_, by (repeat (first | (with_reducible assumption) | (with_reducible exact Below.refl _ _) | ((with_reducible refine Below.alloc ?_ ?hsz _); (case hsz => (first | omega | (simp; done) | (simp; omega) | (simp at *; omega)))) | ((with_reducible refine Below.setCell ?_ ?hsz _); (case hsz => (first | omega | (simp; done) | (simp; omega) | (simp at *; omega)))) | (with_reducible refine Below.drew ?_) | (with_reducible refine below_drewN ?_ _) | ((with_reducible refine Below.trans ?_ (Below.mono (by with_reducible assumption) ?hsz)); (case hsz => (first | omega | (simp; done) | (simp; omega) | (simp at *; omega))))))⟩
    rw [Hf.out]
    exact hR2.mono (by simp)

end Go.Proofs.YtmgpekdhcghabaaGreat
