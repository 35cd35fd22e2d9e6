/- Contracts of the functions of chapter 11 in the model: WithoutPipes. -/
import Derived.Test.YtdbfpdanoclgmaaS5
import Derived.Test.YtdbfpdanoclgmaaCA
import Derived.Test.YtdbfpdanoclgmaaD0
import Derived.Test.YtdbfpdanoclgmaaRD
import Derived.Deep.QuietTactic
namespace Go.Proofs.Ytdbfpdanoclgmaa
open Go.RowKit

theorem outP_ends (xs : List Int) (k : Nat) (p : Pp) : (outP xs k p).fr = p.fr ∧ (outP xs k p).to = p.to ∧ (outP xs k p).co = p.co := by
  unfold outP
  split <;> exact ⟨rfl, rfl, rfl⟩
theorem outP_hit {xs : List Int} {j k : Nat} (h : j < xs.length) (e : xs[j] = (k : Int)) (p : Pp) : outP (xs.take (j + 1)) k p = ⟨p.fr, p.to, 0, 0, p.co⟩ := by
  unfold outP
  rw [if_pos (by rw [List.take_succ_eq_append_getElem h, e]; simp)]
theorem outP_miss {xs : List Int} {j k : Nat} (h : j < xs.length) (e : xs[j] ≠ (k : Int)) (p : Pp) : outP (xs.take (j + 1)) k p = outP (xs.take j) k p := by
  unfold outP
  have : ((k : Int) ∈ xs.take (j + 1)) ↔ (k : Int) ∈ xs.take j := by
    rw [List.take_succ_eq_append_getElem h, List.mem_append]
    constructor
    · rintro (h | h)
      · exact h
      · simp at h; exact absurd h.symm e
    · exact .inl
  simp only [this]

set_option maxHeartbeats 8000000 in
set_option maxRecDepth 20000 in
theorem specWithout_any (n : Int) (v u : Value) (ps : List Pp) (xs : List Int) (b : Nat) (w : World) (hp : Pipes w b v ps) (hx : Reads w u xs) :
    Calls Try.prog 16 #[.agg #[.int .i64 n, v], u] w fun e w' => ∃ s, e = .returned (.tuple #[.agg #[.int .i64 (outN n ps xs), s], .bool (outB n ps xs)]) ∧ Pipes w' w.heap.size s (outR n ps xs) ∧ Below w.heap.size w w' := by
  have hp0 := hp
  have hx0 := hx
  obtain ⟨A, c, rfl, hc1, hc2, hs, hcell⟩ := hp.form
  obtain ⟨AX, cX, rfl, hk1, hk2, -, hcellX⟩ := hx.form
  unfold maxLen at hc2 hk2
  obtain ⟨w0, hw0⟩ : ∃ W, W = (w.alloc (.cells #[.int .i64 n, .slice A ps.length c] 28)).alloc (.cells #[.int .i64 0, .slice none 0 0] 28) := ⟨_, rfl⟩
  have hb0 : Below w.heap.size w w0 := by rw [hw0]; (repeat (first | (with_reducible assumption) | (with_reducible exact Below.refl _ _) | ((with_reducible refine Below.alloc ?_ ?hsz _); (case hsz => (first | omega | (simp; done) | (simp; omega) | (simp at *; omega)))) | ((with_reducible refine Below.setCell ?_ ?hsz _); (case hsz => (first | omega | (simp; done) | (simp; omega) | (simp at *; omega)))) | (with_reducible refine Below.drew ?_) | (with_reducible refine below_drewN ?_ _) | ((with_reducible refine Below.trans ?_ (Below.mono (by with_reducible assumption) ?hsz)); (case hsz => (first | omega | (simp; done) | (simp; omega) | (simp at *; omega))))))
  have hz0 : w.heap.size + 2 ≤ w0.heap.size := by rw [hw0]; simp
  have q0 : w0.cell? ⟨w.heap.size, 0, none⟩ = some (.int .i64 n) := by rw [hw0]; go_simp
  have q1 : w0.cell? ⟨w.heap.size, 1, none⟩ = some (.slice A ps.length c) := by rw [hw0]; go_simp
  have q3 : w0.cell? ⟨w.heap.size + 1, 0, none⟩ = some (.int .i64 0) := by rw [hw0]; go_simp
  have q4 : w0.cell? ⟨w.heap.size + 1, 1, none⟩ = some (.slice none 0 0) := by rw [hw0]; go_simp
  have z3 : ∀ j, w0.frozen? ⟨w.heap.size + 1, j, none⟩ = false := fun j => by rw [hw0]; go_simp
  obtain ⟨lX, hlX⟩ : ∃ l, xs.length = l := ⟨_, rfl⟩
  have HLX := Lib.hid hlX
  rw [hlX] at hk1 hx0 ⊢
  clear hlX
  go_enter Try.func16, Try.ntmps16
  go_wp2_with fail
  rw [← hw0]
  clear hw0
  go_loopw [6] (fun i wr => ∃ k : Nat, k ≤ lX ∧ i = .int .i64 k ∧ (∀ x ∈ xs.take k, withinB x 0 ((ps.length : Int) - 1) = true) ∧ Below w0.heap.size w0 wr) (fun i _ => lX - (intOf i).toNat)
  case atStart => exact ⟨0, by omega, rfl, by simp, Below.refl _ _⟩
  case round =>
    obtain ⟨k, hk, rfl, hall, hb⟩ := hrel
    have Hall := Lib.hid hall
    have hzb := hb.size
    clear hall
    have e0 := (hb.cell (p := ⟨w.heap.size, 0, none⟩) (by (first | omega | (simp; done) | (simp; omega) | (simp at *; omega)))).trans q0
    have e1 := (hb.cell (p := ⟨w.heap.size, 1, none⟩) (by (first | omega | (simp; done) | (simp; omega) | (simp at *; omega)))).trans q1
    have y0 := (hb.cell (p := ⟨w.heap.size + 1, 0, none⟩) (by (first | omega | (simp; done) | (simp; omega) | (simp at *; omega)))).trans q3
    have y1 := (hb.cell (p := ⟨w.heap.size + 1, 1, none⟩) (by (first | omega | (simp; done) | (simp; omega) | (simp at *; omega)))).trans q4
    have fy : ∀ j, wr.frozen? ⟨w.heap.size + 1, j, none⟩ = false := fun j => (hb.frozen (p := ⟨w.heap.size + 1, j, none⟩) (by (first | omega | (simp; done) | (simp; omega) | (simp at *; omega)))).trans (z3 j)
    have hbw : Below w.heap.size w wr := hb0.trans (hb.mono (by omega))
    by_cases hlt : k < lX
    · have hlx : k < xs.length := by have := HLX.out; omega
      obtain ⟨gx, ox, rfl, gx2, cx⟩ := hcellX wr hbw k hlx
      have hgxw : gx < wr.heap.size := by omega
      by_cases hz : withinB xs[k] 0 ((ps.length : Int) - 1) = true
      · have Hn := Lib.hid (all_take (f := fun x : Int => withinB x 0 ((ps.length : Int) - 1)) hlx Hall.out hz)
        go_wp2_with fail
        go_quiet ((go_at_call 43; exact Calls.quiet_of_same ((l1In_any _ _ _ _).mono fun _ _ h => ⟨h.1, h.2.symm⟩)))
        rw [hz]
        clear hz
        go_wp2
        go_roundw
        case rel => exact ⟨k + 1, by omega, by go_num, Hn.out, by (repeat (first | (with_reducible assumption) | (with_reducible exact Below.refl _ _) | ((with_reducible refine Below.alloc ?_ ?hsz _); (case hsz => (first | omega | (simp; done) | (simp; omega) | (simp at *; omega)))) | ((with_reducible refine Below.setCell ?_ ?hsz _); (case hsz => (first | omega | (simp; done) | (simp; omega) | (simp at *; omega)))) | (with_reducible refine Below.drew ?_) | (with_reducible refine below_drewN ?_ _) | ((with_reducible refine Below.trans ?_ (Below.mono (by with_reducible assumption) ?hsz)); (case hsz => (first | omega | (simp; done) | (simp; omega) | (simp at *; omega))))))⟩
        case measure => simp [intOf]; omega
      · have hz' : withinB xs[k] 0 ((ps.length : Int) - 1) = false := by simpa using hz
        have hpl : placesB ps xs = false := all_no hlx (by simp [hz'])
        have hno := Lib.hid (outB_no (n := n) (ps := ps) (xs := xs) (by simp [outB, hpl]))
        have HB := Lib.hid (show outB n ps xs = false by simp [outB, hpl])
        clear hz hpl
        go_wp2_with fail
        go_quiet ((go_at_call 43; exact Calls.quiet_of_same ((l1In_any _ _ _ _).mono fun _ _ h => ⟨h.1, h.2.symm⟩)))
        rw [hz']
        clear hz'
        go_wp2
        refine bodyPost_ret (v := .tuple #[.agg #[.int .i64 0, .slice none 0 0], .bool false]) (by simp [results, Try.results16, go_sem, y0, y1]) rfl ⟨.slice none 0 0, by rw [hno.out.1, HB.out], by rw [hno.out.2]; exact Pipes_nil _ _, by (repeat (first | (with_reducible assumption) | (with_reducible exact Below.refl _ _) | ((with_reducible refine Below.alloc ?_ ?hsz _); (case hsz => (first | omega | (simp; done) | (simp; omega) | (simp at *; omega)))) | ((with_reducible refine Below.setCell ?_ ?hsz _); (case hsz => (first | omega | (simp; done) | (simp; omega) | (simp at *; omega)))) | (with_reducible refine Below.drew ?_) | (with_reducible refine below_drewN ?_ _) | ((with_reducible refine Below.trans ?_ (Below.mono (by with_reducible assumption) ?hsz)); (case hsz => (first | omega | (simp; done) | (simp; omega) | (simp at *; omega))))))⟩
    · have hk2 : lX = k := by omega
      subst hk2
      have hpl : placesB ps xs = true := by
        rw [List.take_of_length_le (by rw [HLX.out]; exact Nat.le_refl _)] at Hall
        exact List.all_eq_true.2 Hall.out
      rcases hok : netOkB n ps with _ | _
      · have hno := Lib.hid (outB_no (n := n) (ps := ps) (xs := xs) (by simp [outB, hok]))
        have HB := Lib.hid (show outB n ps xs = false by simp [outB, hok])
        clear hpl
        go_wp2_with fail
        refine (specNetOk_any n _ ps b _ (hp0.keep hbw)).mono ?_
        rintro e w1 ⟨rfl, hb1⟩
        rw [hok]
        have hz1 := hb1.size
        have y0' := (hb1.cell (p := ⟨w.heap.size + 1, 0, none⟩) (by (first | omega | (simp; done) | (simp; omega) | (simp at *; omega)))).trans y0
        have y1' := (hb1.cell (p := ⟨w.heap.size + 1, 1, none⟩) (by (first | omega | (simp; done) | (simp; omega) | (simp at *; omega)))).trans y1
        have fy' : ∀ j, w1.frozen? ⟨w.heap.size + 1, j, none⟩ = false := fun j => (hb1.frozen (p := ⟨w.heap.size + 1, j, none⟩) (by (first | omega | (simp; done) | (simp; omega) | (simp at *; omega)))).trans (fy j)
        have hbw1 := hbw.trans (hb1.mono (by omega))
        clear y0 y1 fy e0 e1 hb1
        go_wp2
        refine bodyPost_ret (v := .tuple #[.agg #[.int .i64 0, .slice none 0 0], .bool false]) (by simp [results, Try.results16, go_sem, y0', y1']) rfl ⟨.slice none 0 0, by rw [hno.out.1, HB.out], by rw [hno.out.2]; exact Pipes_nil _ _, by (repeat (first | (with_reducible assumption) | (with_reducible exact Below.refl _ _) | ((with_reducible refine Below.alloc ?_ ?hsz _); (case hsz => (first | omega | (simp; done) | (simp; omega) | (simp at *; omega)))) | ((with_reducible refine Below.setCell ?_ ?hsz _); (case hsz => (first | omega | (simp; done) | (simp; omega) | (simp at *; omega)))) | (with_reducible refine Below.drew ?_) | (with_reducible refine below_drewN ?_ _) | ((with_reducible refine Below.trans ?_ (Below.mono (by with_reducible assumption) ?hsz)); (case hsz => (first | omega | (simp; done) | (simp; omega) | (simp at *; omega))))))⟩
      · have hyes := Lib.hid (outB_yes (n := n) (ps := ps) (xs := xs) (by simp [outB, hok, hpl]))
        have HB := Lib.hid (show outB n ps xs = true by simp [outB, hok, hpl])
        have l7 := (netOk_parts hok).2.2.1
        obtain ⟨i0, hi0, hz00, hz10', hz20⟩ := info_parts pipe_info
        clear hpl
        go_wp2_with fail
        refine (specNetOk_any n _ ps b _ (hp0.keep hbw)).mono ?_
        rintro e w1 ⟨rfl, hb1⟩
        rw [hok]
        have hz1 := hb1.size
        have hb01 := hb.trans (hb1.mono hzb)
        have hbw1 := hbw.trans (hb1.mono (by omega))
        have hww := hbw1.size
        clear y0 y1 fy e0 e1 hb1 hb hbw
        have e0 := (hb01.cell (p := ⟨w.heap.size, 0, none⟩) (by (first | omega | (simp; done) | (simp; omega) | (simp at *; omega)))).trans q0
        have e1 := (hb01.cell (p := ⟨w.heap.size, 1, none⟩) (by (first | omega | (simp; done) | (simp; omega) | (simp at *; omega)))).trans q1
        have y0 := (hb01.cell (p := ⟨w.heap.size + 1, 0, none⟩) (by (first | omega | (simp; done) | (simp; omega) | (simp at *; omega)))).trans q3
        have y1 := (hb01.cell (p := ⟨w.heap.size + 1, 1, none⟩) (by (first | omega | (simp; done) | (simp; omega) | (simp at *; omega)))).trans q4
        have fy : ∀ j, w1.frozen? ⟨w.heap.size + 1, j, none⟩ = false := fun j => (hb01.frozen (p := ⟨w.heap.size + 1, j, none⟩) (by (first | omega | (simp; done) | (simp; omega) | (simp at *; omega)))).trans (z3 j)
        have s01 : w.heap.size + 1 < w1.heap.size := by omega
        go_wp2_with fail
        go_loopw [8] (fun i wr => ∃ (k : Nat) (A1 : Option Addr) (k1 : Nat), k ≤ ps.length ∧ i = .int .i64 k ∧
            wr.ownsRow (w1.heap.size + 1) 59 5 (.slice A1 k k1) k (((outL xs ps).take k).flatMap Pp.cells) ∧ w1.heap.size < wr.heap.size ∧
            wr.cell? ⟨w1.heap.size, 0, none⟩ = some (.int .i64 n) ∧ wr.cell? ⟨w1.heap.size, 1, none⟩ = some (.slice A1 k k1) ∧ wr.frozen? ⟨w1.heap.size, 1, none⟩ = false ∧ Below w1.heap.size w1 wr) (fun i _ => ps.length - (intOf i).toNat)
        case atStart => exact ⟨0, none, 0, by omega, rfl, World.ownsRow_nil _ _ _ 5, by (first | omega | (simp; done) | (simp; omega) | (simp at *; omega)), by simp, by simp, by simp, by (repeat (first | (with_reducible assumption) | (with_reducible exact Below.refl _ _) | ((with_reducible refine Below.alloc ?_ ?hsz _); (case hsz => (first | omega | (simp; done) | (simp; omega) | (simp at *; omega)))) | ((with_reducible refine Below.setCell ?_ ?hsz _); (case hsz => (first | omega | (simp; done) | (simp; omega) | (simp at *; omega)))) | (with_reducible refine Below.drew ?_) | (with_reducible refine below_drewN ?_ _) | ((with_reducible refine Below.trans ?_ (Below.mono (by with_reducible assumption) ?hsz)); (case hsz => (first | omega | (simp; done) | (simp; omega) | (simp at *; omega))))))⟩
        case round =>
          obtain ⟨k, A1, k1, hk, rfl, hown, s2, d0, d1, df, hb⟩ := hrel
          have hzr := hb.size
          have E0 := (hb.cell (p := ⟨w.heap.size, 0, none⟩) (by (first | omega | (simp; done) | (simp; omega) | (simp at *; omega)))).trans e0
          have E1 := (hb.cell (p := ⟨w.heap.size, 1, none⟩) (by (first | omega | (simp; done) | (simp; omega) | (simp at *; omega)))).trans e1
          have Y0 := (hb.cell (p := ⟨w.heap.size + 1, 0, none⟩) (by (first | omega | (simp; done) | (simp; omega) | (simp at *; omega)))).trans y0
          have Y1 := (hb.cell (p := ⟨w.heap.size + 1, 1, none⟩) (by (first | omega | (simp; done) | (simp; omega) | (simp at *; omega)))).trans y1
          have FY : ∀ j, wr.frozen? ⟨w.heap.size + 1, j, none⟩ = false := fun j => (hb.frozen (p := ⟨w.heap.size + 1, j, none⟩) (by (first | omega | (simp; done) | (simp; omega) | (simp at *; omega)))).trans (fy j)
          have hbw : Below w.heap.size w wr := hbw1.trans (hb.mono (by omega))
          by_cases hlt : k < ps.length
          · obtain ⟨g, rfl, hg1, hg2, c0, c1, c2, c3, c4⟩ := hcell wr hbw k hlt
            have hgr : g < wr.heap.size := by omega
            have hne1 : some w1.heap.size ≠ (Value.slice A1 k k1).ownBlock := by
              intro h
              have := (hown.lt _ h.symm).1
              omega
            obtain ⟨wo, hwo⟩ : ∃ wo, wo = wr := ⟨_, rfl⟩
            subst hwo
            obtain ⟨p, hpk⟩ : ∃ p, ps[k] = p := ⟨_, rfl⟩
            have HPK := Lib.hid hpk
            rw [hpk] at c0 c1 c2 c3 c4
            clear hpk
            obtain ⟨W9, hW9⟩ : ∃ W, W = wo.alloc (.cells #[.int .i64 p.fr, .int .i64 p.to, .int .i64 p.le, .int .i64 p.mo, .int .i64 p.co] 59) := ⟨_, rfl⟩
            have hb9 : Below wo.heap.size wo W9 := by rw [hW9]; (repeat (first | (with_reducible assumption) | (with_reducible exact Below.refl _ _) | ((with_reducible refine Below.alloc ?_ ?hsz _); (case hsz => (first | omega | (simp; done) | (simp; omega) | (simp at *; omega)))) | ((with_reducible refine Below.setCell ?_ ?hsz _); (case hsz => (first | omega | (simp; done) | (simp; omega) | (simp at *; omega)))) | (with_reducible refine Below.drew ?_) | (with_reducible refine below_drewN ?_ _) | ((with_reducible refine Below.trans ?_ (Below.mono (by with_reducible assumption) ?hsz)); (case hsz => (first | omega | (simp; done) | (simp; omega) | (simp at *; omega))))))
            have hx9 : Box5 W9 wo.heap.size p := by rw [hW9]; exact Box5.new _ _ _ _ _ _ _ rfl
            have hz9 : wo.heap.size + 1 ≤ W9.heap.size := by rw [hW9]; simp
            have HO := Lib.hid (And.intro hown (And.intro d0 (And.intro d1 df)))
            go_wp2_with fail
            rw [← hW9]
            clear hW9 c0 c1 c2 c3 c4
            go_loopw [10] (fun i wr => ∃ j : Nat, j ≤ lX ∧ i = .int .i64 j ∧ Box5 wr wo.heap.size (outP (xs.take j) k p) ∧ Below wo.heap.size wo wr) (fun i _ => lX - (intOf i).toNat)
            case atStart => exact ⟨0, by omega, rfl, by simpa [outP] using hx9, hb9⟩
            case round =>
              clear hx9 hb9
              obtain ⟨j, hj, rfl, hbx, hbi⟩ := hrel
              have hzi := hbi.size
              obtain ⟨bs, p0, p1, p2, p3, p4, pf⟩ := id hbx
              obtain ⟨t1, t2, t3⟩ := outP_ends (xs.take j) k p
              by_cases hjl : j < lX
              · have hjx : j < xs.length := by have := HLX.out; omega
                obtain ⟨gx, ox, hgx, gx2, cx⟩ := hcellX wr (hbw.trans (hbi.mono (by omega))) j hjx
                subst hgx
                have hgxw : gx < wr.heap.size := by omega
                by_cases he : xs[j] = (k : Int)
                · have Hh := Lib.hid (outP_hit hjx he p)
                  rw [he] at cx
                  rw [t1] at p0
                  rw [t2] at p1
                  rw [t3] at p4
                  have Hbx := Lib.hid hbx
                  clear he hbx
                  go_wp2
                  go_roundw
                  case rel => exact ⟨j + 1, by omega, by go_num, by rw [Hh.out]; exact Box5.of_sets p.fr p.to 0 0 p.co bs p0 p1 p2 p3 p4 pf, by (repeat (first | (with_reducible assumption) | (with_reducible exact Below.refl _ _) | ((with_reducible refine Below.alloc ?_ ?hsz _); (case hsz => (first | omega | (simp; done) | (simp; omega) | (simp at *; omega)))) | ((with_reducible refine Below.setCell ?_ ?hsz _); (case hsz => (first | omega | (simp; done) | (simp; omega) | (simp at *; omega)))) | (with_reducible refine Below.drew ?_) | (with_reducible refine below_drewN ?_ _) | ((with_reducible refine Below.trans ?_ (Below.mono (by with_reducible assumption) ?hsz)); (case hsz => (first | omega | (simp; done) | (simp; omega) | (simp at *; omega))))))⟩
                  case measure => simp [intOf]; omega
                · have Hm := Lib.hid (outP_miss hjx he p)
                  have heb : (xs[j] == (k : Int)) = false := by rw [beq_eq_false_iff_ne]; exact he
                  generalize xs[j] = xj at *
                  have Hbx := Lib.hid hbx
                  clear he hbx p0 p1 p2 p3 p4
                  go_wp2
                  go_roundw
                  case rel => exact ⟨j + 1, by omega, by go_num, by rw [Hm.out]; exact Hbx.out, by (repeat (first | (with_reducible assumption) | (with_reducible exact Below.refl _ _) | ((with_reducible refine Below.alloc ?_ ?hsz _); (case hsz => (first | omega | (simp; done) | (simp; omega) | (simp at *; omega)))) | ((with_reducible refine Below.setCell ?_ ?hsz _); (case hsz => (first | omega | (simp; done) | (simp; omega) | (simp at *; omega)))) | (with_reducible refine Below.drew ?_) | (with_reducible refine below_drewN ?_ _) | ((with_reducible refine Below.trans ?_ (Below.mono (by with_reducible assumption) ?hsz)); (case hsz => (first | omega | (simp; done) | (simp; omega) | (simp at *; omega))))))⟩
                  case measure => simp [intOf]; omega
              · have hj2 : lX = j := by omega
                subst hj2
                have HQ := Lib.hid (show outP (xs.take lX) k p = outP xs k p by rw [List.take_of_length_le (by rw [HLX.out]; exact Nat.le_refl _)])
                obtain ⟨q, hq⟩ : ∃ q, outP (xs.take lX) k p = q := ⟨_, rfl⟩
                rw [hq] at p0 p1 p2 p3 p4 hbx
                have HQ2 := Lib.hid (hq.symm.trans HQ.out)
                have d0i := (hbi.cell (p := ⟨w1.heap.size, 0, none⟩) s2).trans HO.out.2.1
                have d1i := (hbi.cell (p := ⟨w1.heap.size, 1, none⟩) s2).trans HO.out.2.2.1
                have dfi := (hbi.frozen (p := ⟨w1.heap.size, 1, none⟩) s2).trans HO.out.2.2.2
                have hown1 := own_keep HO.out.1 (Nat.le_refl _) hbi
                have hb1i : Below w1.heap.size w1 wr := hb.trans (hbi.mono hzr)
                clear hq hbx t1 t2 t3 hbi hb
                go_wp2_with (first
                  | (at_builtin
                     go_must (refine wpList_append_lies _ rfl _ _ 26 rfl (w1.heap.size + 1) 59 i0 _ 5 40 Try.underlying26 hi0 hz00 hz10' hz20 rfl (by omega) _ k _ rfl (hown1.alloc _) ⟨wr.heap.size, 0, none⟩ 1 1 [.int .i64 q.fr, .int .i64 q.to, .int .i64 q.le, .int .i64 q.mo, .int .i64 q.co] rfl rfl (World.news_of_block (cs := #[.int .i64 q.fr, .int .i64 q.to, .int .i64 q.le, .int .i64 q.mo, .int .i64 q.co]) (t := 59) (fr := (0, 0)) (heap_alloc_new _ _)) (by simp [Value.oneCell']) (by omega) (by unfold maxLen; omega) (by omega) (by (first | omega | (simp; done) | (simp; omega) | (simp at *; omega))) _ rfl ?_)
                     intro g2 k2 w2 hown2 hgr2 hat2 hlt2
                     have x0 : w2.cell? ⟨w1.heap.size, 0, none⟩ = some (.int .i64 n) := (hgr2.cell_far _ (by (first | omega | (simp; done) | (simp; omega) | (simp at *; omega))) hne1).trans (by (repeat (first | (with_reducible assumption) | ((with_reducible refine (Below.cell (by with_reducible assumption) ?hsz).trans ?_); (case hsz => (first | omega | (simp; done) | (simp; omega) | (simp at *; omega)))) | ((with_reducible refine (World.cell?_alloc_lt _ _ _ ?hsz).trans ?_); (case hsz => (first | omega | (simp; done) | (simp; omega) | (simp at *; omega)))) | ((with_reducible refine (World.cell?_setCell_other _ _ _ _ ?hsz).trans ?_); (case hsz => (intro h; injection h with h1 h2; omega))))))
                     have x1 : w2.cell? ⟨w1.heap.size, 1, none⟩ = some (.slice A1 k k1) := (hgr2.cell_far _ (by (first | omega | (simp; done) | (simp; omega) | (simp at *; omega))) hne1).trans (by (repeat (first | (with_reducible assumption) | ((with_reducible refine (Below.cell (by with_reducible assumption) ?hsz).trans ?_); (case hsz => (first | omega | (simp; done) | (simp; omega) | (simp at *; omega)))) | ((with_reducible refine (World.cell?_alloc_lt _ _ _ ?hsz).trans ?_); (case hsz => (first | omega | (simp; done) | (simp; omega) | (simp at *; omega)))) | ((with_reducible refine (World.cell?_setCell_other _ _ _ _ ?hsz).trans ?_); (case hsz => (intro h; injection h with h1 h2; omega))))))
                     have xf : w2.frozen? ⟨w1.heap.size, 1, none⟩ = false := (hgr2.frozen_far _ (by (first | omega | (simp; done) | (simp; omega) | (simp at *; omega))) hne1).trans ((((Below.refl wr.heap.size wr).alloc (Nat.le_refl _) _).frozen (p := ⟨w1.heap.size, 1, none⟩) (by (first | omega | (simp; done) | (simp; omega) | (simp at *; omega)))).trans dfi)))
                have hQC : q.cells = [.int .i64 q.fr, .int .i64 q.to, .int .i64 q.le, .int .i64 q.mo, .int .i64 q.co] := rfl
                have hk1 : (outL xs ps).take (k + 1) = (outL xs ps).take k ++ [q] := by
                  rw [List.take_succ_eq_append_getElem (by rw [outL_len]; exact hlt), outL_at xs hlt, HPK.out, HQ2.out]
                have hown3 : w2.ownsRow (w1.heap.size + 1) 59 5 (.slice (some ⟨g2, 0, none⟩) (k + 1) k2) (k + 1) (((outL xs ps).take (k + 1)).flatMap Pp.cells) := by
                  rw [hk1, List.flatMap_append]
                  simpa [hQC] using hown2
                have hbe : Below w1.heap.size w1 (w2.setCell ⟨w1.heap.size, 1, none⟩ (.slice (some ⟨g2, 0, none⟩) (k + 1) k2)) := by
                  refine Below.setCell ?_ (by (first | omega | (simp; done) | (simp; omega) | (simp at *; omega))) _
                  refine Below.grown (w := wr.alloc (.cells #[.int .i64 q.fr, .int .i64 q.to, .int .i64 q.le, .int .i64 q.mo, .int .i64 q.co] 59)) (by (repeat (first | (with_reducible assumption) | (with_reducible exact Below.refl _ _) | ((with_reducible refine Below.alloc ?_ ?hsz _); (case hsz => (first | omega | (simp; done) | (simp; omega) | (simp at *; omega)))) | ((with_reducible refine Below.setCell ?_ ?hsz _); (case hsz => (first | omega | (simp; done) | (simp; omega) | (simp at *; omega)))) | (with_reducible refine Below.drew ?_) | (with_reducible refine below_drewN ?_ _) | ((with_reducible refine Below.trans ?_ (Below.mono (by with_reducible assumption) ?hsz)); (case hsz => (first | omega | (simp; done) | (simp; omega) | (simp at *; omega))))))) hgr2 (by (first | omega | (simp; done) | (simp; omega) | (simp at *; omega))) ?_
                  intro q' hq'
                  have := (hown1.lt q' hq').1
                  omega
                have hl2 : w1.heap.size < w2.heap.size := by have := hgr2.size; simp at this; omega
                go_roundw
                case rel => exact ⟨k + 1, some ⟨g2, 0, none⟩, k2, by omega, by go_num, ownsRow_setCell_below hown3 (by (first | omega | (simp; done) | (simp; omega) | (simp at *; omega))) _, by (first | omega | (simp; done) | (simp; omega) | (simp at *; omega)), (World.cell?_setCell_other _ _ _ _ (by intro h; injection h with h1 h2; omega)).trans x0, World.cell?_setCell_same _ _ _ x1, by simpa using xf, hbe⟩
                case measure => simp [intOf]; omega
          · have hk2 : k = ps.length := by omega
            subst hk2
            rw [List.take_of_length_le (by rw [outL_len]; exact Nat.le_refl _)] at hown
            have hfin : Pipes wr (w1.heap.size + 1) (.slice A1 ps.length k1) (outL xs ps) := ⟨by rw [outL_len]; exact hown, by rw [outL_len]; simp [small]; omega⟩
            clear hown
            go_wp2
            refine bodyPost_ret (v := .tuple #[.agg #[.int .i64 n, .slice A1 ps.length k1], .bool true]) (by simp [results, Try.results16, go_sem, Y0, Y1]) rfl ⟨_, by rw [hyes.out.1, HB.out], ?_, by (repeat (first | (with_reducible assumption) | (with_reducible exact Below.refl _ _) | ((with_reducible refine Below.alloc ?_ ?hsz _); (case hsz => (first | omega | (simp; done) | (simp; omega) | (simp at *; omega)))) | ((with_reducible refine Below.setCell ?_ ?hsz _); (case hsz => (first | omega | (simp; done) | (simp; omega) | (simp at *; omega)))) | (with_reducible refine Below.drew ?_) | (with_reducible refine below_drewN ?_ _) | ((with_reducible refine Below.trans ?_ (Below.mono (by with_reducible assumption) ?hsz)); (case hsz => (first | omega | (simp; done) | (simp; omega) | (simp at *; omega))))))⟩
            rw [hyes.out.2]
            exact ((hfin.setLow (by (first | omega | (simp; done) | (simp; omega) | (simp at *; omega)))).setLow (by (first | omega | (simp; done) | (simp; omega) | (simp at *; omega)))).mono (by omega)

end Go.Proofs.Ytdbfpdanoclgmaa
