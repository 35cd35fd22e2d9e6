/- Contracts of the functions of chapter 11 in the program: how a pipe is made again. -/
import Derived.Test.YtdbfpdanoclgmaaV1
import Derived.Test.YtdbfpdanoclgmaaCA
namespace Go.Proofs.Ytdbfpdanoclgmaa
open Go.RowKit

set_option maxHeartbeats 1000000 in
set_option maxRecDepth 20000 in
theorem indexRd_any (x : Int) (u : Value) (xs : List Int) (w : World) (hx : Reads w u xs) :
    Calls Try.prog 73 #[u, .int .i64 x] w fun e w' => ∃ r : Int, e = .returned (.int .i64 r) ∧ decide (0 ≤ r) = decide (x ∈ xs) ∧ Below w.heap.size w w' := by
  obtain ⟨A, c, rfl, hc1, hc2, hsm, hcell⟩ := hx.form
  unfold maxLen at hc2
  go_enter Try.func73, Try.ntmps73
  go_wp2
  go_loopw [8] (fun i wr => ∃ j : Nat, j ≤ xs.length ∧ i = .int .i64 j ∧ x ∉ xs.take j ∧ Below w.heap.size w wr) (fun i _ => xs.length - (intOf i).toNat)
  case atStart => exact ⟨0, by omega, rfl, by simp, Below.refl _ _⟩
  case round =>
    obtain ⟨j, hj, rfl, hall, hb⟩ := hrel
    have Hall := Lib.hid hall
    clear hall
    have hzb := hb.size
    by_cases hlt : j < xs.length
    · obtain ⟨g, o, rfl, hg2, cx⟩ := hcell wr hb j hlt
      have Ht := Lib.hid (List.take_succ_eq_append_getElem hlt)
      have HM := Lib.hid (List.getElem_mem hlt)
      generalize xs[j] = y at *
      have hgr : g < wr.heap.size := by omega
      by_cases hxy : x = y
      · have hxb : (x == y) = true := by simpa using hxy
        have Hy := Lib.hid (show x ∈ xs by rw [hxy]; exact HM.out)
        clear hxy
        go_wp2
        go_ret
        exact ⟨_, rfl, by rw [decide_eq_true Hy.out]; simp, by (repeat (first | (with_reducible assumption) | (with_reducible exact Below.refl _ _) | ((with_reducible refine Below.alloc ?_ ?hsz _); (case hsz => (first | omega | (simp; done) | (simp; omega) | (simp at *; omega)))) | ((with_reducible refine Below.setCell ?_ ?hsz _); (case hsz => (first | omega | (simp; done) | (simp; omega) | (simp at *; omega)))) | (with_reducible refine Below.drew ?_) | (with_reducible refine below_drewN ?_ _) | ((with_reducible refine Below.trans ?_ (Below.mono (by with_reducible assumption) ?hsz)); (case hsz => (first | omega | (simp; done) | (simp; omega) | (simp at *; omega))))))⟩
      · have hxb : (x == y) = false := by simpa using hxy
        have Hn := Lib.hid (show x ∉ xs.take (j + 1) by
          rw [Ht.out, List.mem_append]
          rintro (h | h)
          · exact Hall.out h
          · simp at h; exact hxy h)
        clear hxy
        go_wp2
        go_roundw
        case rel => exact ⟨j + 1, by omega, by go_num, Hn.out, by (repeat (first | (with_reducible assumption) | (with_reducible exact Below.refl _ _) | ((with_reducible refine Below.alloc ?_ ?hsz _); (case hsz => (first | omega | (simp; done) | (simp; omega) | (simp at *; omega)))) | ((with_reducible refine Below.setCell ?_ ?hsz _); (case hsz => (first | omega | (simp; done) | (simp; omega) | (simp at *; omega)))) | (with_reducible refine Below.drew ?_) | (with_reducible refine below_drewN ?_ _) | ((with_reducible refine Below.trans ?_ (Below.mono (by with_reducible assumption) ?hsz)); (case hsz => (first | omega | (simp; done) | (simp; omega) | (simp at *; omega))))))⟩
        case measure => simp [intOf]; omega
    · have hjk : j = xs.length := by omega
      subst hjk
      rw [List.take_length] at Hall
      go_wp2
      go_ret
      exact ⟨_, rfl, by rw [decide_eq_false Hall.out]; rfl, hb⟩

set_option maxHeartbeats 1000000 in
set_option maxRecDepth 20000 in
theorem containsRd_any (x : Int) (u : Value) (xs : List Int) (w : World) (hx : Reads w u xs) :
    Calls Try.prog 46 #[u, .int .i64 x] w fun e w' => e = .returned (.bool (decide (x ∈ xs))) ∧ Below w.heap.size w w' := by
  go_enter Try.func46, Try.ntmps46
  go_wp2_with fail
  refine (indexRd_any x u xs _ (hx.keep (by (repeat (first | (with_reducible assumption) | (with_reducible exact Below.refl _ _) | ((with_reducible refine Below.alloc ?_ ?hsz _); (case hsz => (first | omega | (simp; done) | (simp; omega) | (simp at *; omega)))) | ((with_reducible refine Below.setCell ?_ ?hsz _); (case hsz => (first | omega | (simp; done) | (simp; omega) | (simp at *; omega)))) | (with_reducible refine Below.drew ?_) | (with_reducible refine below_drewN ?_ _) | ((with_reducible refine Below.trans ?_ (Below.mono (by with_reducible assumption) ?hsz)); (case hsz => (first | omega | (simp; done) | (simp; omega) | (simp at *; omega))))))))).mono ?_
  rintro e w1 ⟨r, rfl, hr, hb1⟩
  have Hr := Lib.hid hr
  clear hr
  go_wp2
  go_ret
  exact ⟨by first | exact ret_bool Hr.out | rfl, by (repeat (first | (with_reducible assumption) | (with_reducible exact Below.refl _ _) | ((with_reducible refine Below.alloc ?_ ?hsz _); (case hsz => (first | omega | (simp; done) | (simp; omega) | (simp at *; omega)))) | ((with_reducible refine Below.setCell ?_ ?hsz _); (case hsz => (first | omega | (simp; done) | (simp; omega) | (simp at *; omega)))) | (with_reducible refine Below.drew ?_) | (with_reducible refine below_drewN ?_ _) | ((with_reducible refine Below.trans ?_ (Below.mono (by with_reducible assumption) ?hsz)); (case hsz => (first | omega | (simp; done) | (simp; omega) | (simp at *; omega))))))⟩

set_option maxHeartbeats 1000000 in
set_option maxRecDepth 20000 in
theorem unitFn_any (k : Int) (p : Pp) (w : World) :
    Calls Try.prog 39 #[.int .i64 k, .agg #[.int .i64 p.fr, .int .i64 p.to, .int .i64 p.le, .int .i64 p.mo, .int .i64 p.co]] w fun e w' => e = .returned (.agg #[.int .i64 (unitP p).fr, .int .i64 (unitP p).to, .int .i64 (unitP p).le, .int .i64 (unitP p).mo, .int .i64 (unitP p).co]) ∧ Below w.heap.size w w' := by
  go_enter Try.func39, Try.ntmps39
  go_wp2
  all_goals refine bodyPost_ret (v := .agg #[.int .i64 (unitP p).fr, .int .i64 (unitP p).to, .int .i64 (unitP p).le, .int .i64 (unitP p).mo, .int .i64 (unitP p).co]) (by simp [results, Try.results39, go_sem, unitP]; try omega) rfl ⟨rfl, by (repeat (first | (with_reducible assumption) | (with_reducible exact Below.refl _ _) | ((with_reducible refine Below.alloc ?_ ?hsz _); (case hsz => (first | omega | (simp; done) | (simp; omega) | (simp at *; omega)))) | ((with_reducible refine Below.setCell ?_ ?hsz _); (case hsz => (first | omega | (simp; done) | (simp; omega) | (simp at *; omega)))) | (with_reducible refine Below.drew ?_) | (with_reducible refine below_drewN ?_ _) | ((with_reducible refine Below.trans ?_ (Below.mono (by with_reducible assumption) ?hsz)); (case hsz => (first | omega | (simp; done) | (simp; omega) | (simp at *; omega))))))⟩

set_option maxHeartbeats 1000000 in
set_option maxRecDepth 20000 in
theorem outFn_any (k bs : Nat) (p : Pp) (u : Value) (xs : List Int) (w : World) (hx : Reads w u xs) (d0 : w.cell? ⟨bs, 0, none⟩ = some u) (hbs : bs < w.heap.size) :
    Calls Try.prog 45 #[.int .i64 k, .agg #[.int .i64 p.fr, .int .i64 p.to, .int .i64 p.le, .int .i64 p.mo, .int .i64 p.co], .pointer (some ⟨bs, 0, none⟩)] w fun e w' => e = .returned (.agg #[.int .i64 (outP xs k p).fr, .int .i64 (outP xs k p).to, .int .i64 (outP xs k p).le, .int .i64 (outP xs k p).mo, .int .i64 (outP xs k p).co]) ∧ Below w.heap.size w w' := by
  obtain ⟨AX, cX, rfl, -, -, -, -⟩ := hx.form
  go_enter Try.func45, Try.ntmps45
  go_wp2_with fail
  refine (containsRd_any (k : Int) _ xs _ (hx.keep (by (repeat (first | (with_reducible assumption) | (with_reducible exact Below.refl _ _) | ((with_reducible refine Below.alloc ?_ ?hsz _); (case hsz => (first | omega | (simp; done) | (simp; omega) | (simp at *; omega)))) | ((with_reducible refine Below.setCell ?_ ?hsz _); (case hsz => (first | omega | (simp; done) | (simp; omega) | (simp at *; omega)))) | (with_reducible refine Below.drew ?_) | (with_reducible refine below_drewN ?_ _) | ((with_reducible refine Below.trans ?_ (Below.mono (by with_reducible assumption) ?hsz)); (case hsz => (first | omega | (simp; done) | (simp; omega) | (simp at *; omega))))))))).mono ?_
  rintro e w1 ⟨rfl, hb1⟩
  have hz1 := hb1.size
  have y0 : w1.cell? ⟨w.heap.size, 0, none⟩ = some (.int .i64 p.fr) := (hb1.cell (p := ⟨w.heap.size, 0, none⟩) (by (first | omega | (simp; done) | (simp; omega) | (simp at *; omega)))).trans (by go_simp)
  have y1 : w1.cell? ⟨w.heap.size, 1, none⟩ = some (.int .i64 p.to) := (hb1.cell (p := ⟨w.heap.size, 1, none⟩) (by (first | omega | (simp; done) | (simp; omega) | (simp at *; omega)))).trans (by go_simp)
  have y2 : w1.cell? ⟨w.heap.size, 2, none⟩ = some (.int .i64 p.le) := (hb1.cell (p := ⟨w.heap.size, 2, none⟩) (by (first | omega | (simp; done) | (simp; omega) | (simp at *; omega)))).trans (by go_simp)
  have y3 : w1.cell? ⟨w.heap.size, 3, none⟩ = some (.int .i64 p.mo) := (hb1.cell (p := ⟨w.heap.size, 3, none⟩) (by (first | omega | (simp; done) | (simp; omega) | (simp at *; omega)))).trans (by go_simp)
  have y4 : w1.cell? ⟨w.heap.size, 4, none⟩ = some (.int .i64 p.co) := (hb1.cell (p := ⟨w.heap.size, 4, none⟩) (by (first | omega | (simp; done) | (simp; omega) | (simp at *; omega)))).trans (by go_simp)
  have r0 : w1.cell? ⟨w.heap.size + 1, 0, none⟩ = some (.int .i64 0) := (hb1.cell (p := ⟨w.heap.size + 1, 0, none⟩) (by (first | omega | (simp; done) | (simp; omega) | (simp at *; omega)))).trans (by go_simp)
  have r1 : w1.cell? ⟨w.heap.size + 1, 1, none⟩ = some (.int .i64 0) := (hb1.cell (p := ⟨w.heap.size + 1, 1, none⟩) (by (first | omega | (simp; done) | (simp; omega) | (simp at *; omega)))).trans (by go_simp)
  have r2 : w1.cell? ⟨w.heap.size + 1, 2, none⟩ = some (.int .i64 0) := (hb1.cell (p := ⟨w.heap.size + 1, 2, none⟩) (by (first | omega | (simp; done) | (simp; omega) | (simp at *; omega)))).trans (by go_simp)
  have r3 : w1.cell? ⟨w.heap.size + 1, 3, none⟩ = some (.int .i64 0) := (hb1.cell (p := ⟨w.heap.size + 1, 3, none⟩) (by (first | omega | (simp; done) | (simp; omega) | (simp at *; omega)))).trans (by go_simp)
  have r4 : w1.cell? ⟨w.heap.size + 1, 4, none⟩ = some (.int .i64 0) := (hb1.cell (p := ⟨w.heap.size + 1, 4, none⟩) (by (first | omega | (simp; done) | (simp; omega) | (simp at *; omega)))).trans (by go_simp)
  have fy : ∀ j, w1.frozen? ⟨w.heap.size, j, none⟩ = false := fun j => (hb1.frozen (p := ⟨w.heap.size, j, none⟩) (by (first | omega | (simp; done) | (simp; omega) | (simp at *; omega)))).trans (by go_simp)
  have fr : ∀ j, w1.frozen? ⟨w.heap.size + 1, j, none⟩ = false := fun j => (hb1.frozen (p := ⟨w.heap.size + 1, j, none⟩) (by (first | omega | (simp; done) | (simp; omega) | (simp at *; omega)))).trans (by go_simp)
  by_cases hm : (k : Int) ∈ xs
  · have Hm := Lib.hid (show outP xs k p = ⟨p.fr, p.to, 0, 0, p.co⟩ by unfold outP; rw [if_pos hm])
    rw [decide_eq_true hm]
    clear hm
    go_wp2
    refine bodyPost_ret (v := .agg #[.int .i64 (outP xs k p).fr, .int .i64 (outP xs k p).to, .int .i64 (outP xs k p).le, .int .i64 (outP xs k p).mo, .int .i64 (outP xs k p).co]) (by simp [results, Try.results45, go_sem, r0, r1, r2, r3, r4, Hm.out]) rfl ⟨rfl, by (repeat (first | (with_reducible assumption) | (with_reducible exact Below.refl _ _) | ((with_reducible refine Below.alloc ?_ ?hsz _); (case hsz => (first | omega | (simp; done) | (simp; omega) | (simp at *; omega)))) | ((with_reducible refine Below.setCell ?_ ?hsz _); (case hsz => (first | omega | (simp; done) | (simp; omega) | (simp at *; omega)))) | (with_reducible refine Below.drew ?_) | (with_reducible refine below_drewN ?_ _) | ((with_reducible refine Below.trans ?_ (Below.mono (by with_reducible assumption) ?hsz)); (case hsz => (first | omega | (simp; done) | (simp; omega) | (simp at *; omega))))))⟩
  · have Hm := Lib.hid (show outP xs k p = p by unfold outP; rw [if_neg hm])
    rw [decide_eq_false hm]
    clear hm
    go_wp2
    refine bodyPost_ret (v := .agg #[.int .i64 (outP xs k p).fr, .int .i64 (outP xs k p).to, .int .i64 (outP xs k p).le, .int .i64 (outP xs k p).mo, .int .i64 (outP xs k p).co]) (by simp [results, Try.results45, go_sem, r0, r1, r2, r3, r4, Hm.out]) rfl ⟨rfl, by (repeat (first | (with_reducible assumption) | (with_reducible exact Below.refl _ _) | ((with_reducible refine Below.alloc ?_ ?hsz _); (case hsz => (first | omega | (simp; done) | (simp; omega) | (simp at *; omega)))) | ((with_reducible refine Below.setCell ?_ ?hsz _); (case hsz => (first | omega | (simp; done) | (simp; omega) | (simp at *; omega)))) | (with_reducible refine Below.drew ?_) | (with_reducible refine below_drewN ?_ _) | ((with_reducible refine Below.trans ?_ (Below.mono (by with_reducible assumption) ?hsz)); (case hsz => (first | omega | (simp; done) | (simp; omega) | (simp at *; omega))))))⟩

end Go.Proofs.Ytdbfpdanoclgmaa
