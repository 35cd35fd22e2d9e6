/- Contracts of the functions of chapter 2 in the program: LeastRoom. -/
import Derived.Test.YtabkhpeoeihmmaaW9
namespace Go.Proofs.Ytabkhpeoeihmmaa
open Go.RowKit

theorem min_if (a b : Int) : (if b < a then b else a) = min a b := by split <;> omega
theorem int_eq {a b : Int} (h : a = b) : Value.int .i64 a = .int .i64 b := by rw [h]
theorem leastR_yes {n : Int} {ps : List Pp} {a b : Int} (h : endsB n ps a b = true) : leastR n ps a b = (leastI n ps a b, true) := by rw [leastR, if_pos h]
theorem leastR_no {n : Int} {ps : List Pp} {a b : Int} (h : endsB n ps a b = false) : leastR n ps a b = (0, false) := by rw [leastR, if_neg (by simp [h])]

set_option maxHeartbeats 1000000 in
set_option maxRecDepth 20000 in
theorem leastRoom_any (n i j : Int) (v : Value) (ps : List Pp) (b : Nat) (w : World) (hp : Pipes w b v ps) :
    Calls Try.prog 45 #[.agg #[.int .i64 n, v], .int .i64 i, .int .i64 j] w fun e w' => e = .returned (.tuple #[.int .i64 (leastR n ps i j).1, .bool (leastR n ps i j).2]) ∧ Below w.heap.size w w' := by
  have hp0 := hp
  obtain ⟨A, c, rfl, hc1, hc2, hsm, -⟩ := hp.form
  unfold maxLen at hc2
  by_cases he : endsB n ps i j = true
  · obtain ⟨hnok, i0, i1, j0, j1, hij⟩ := ends_parts he
    have hn := side_n hnok
    have hn5 := (netOk_parts hnok).2.1
    have hpos := sides_ne i0 i1 j0 j1 hn5 hij
    have hlen := sides_len n i j hn5
    have Hleast := Lib.hid (least_first he hn5 hpos)
    have Hr := Lib.hid (leastR_yes he)
    have Hok := Lib.hid hnok
    have Hside : Hid (∀ k (hk : k < (sidesL n i j).length), 0 ≤ (sidesL n i j)[k] ∧ (sidesL n i j)[k] ≤ 31) := Lib.hid (sides_in n i j hn5)
    clear hij
    go_enter Try.func45, Try.ntmps45
    go_wp2_with (first
      | (go_at_call 76; ((with_reducible refine (endsOk_any _ _ _ _ ps b _ (hp0.keep (by (repeat (first | (with_reducible assumption) | (with_reducible exact Below.refl _ _) | ((with_reducible refine Below.alloc ?_ ?hsz _); (case hsz => (first | omega | (simp; done) | (simp; omega) | (simp at *; omega)))) | ((with_reducible refine Below.setCell ?_ ?hsz _); (case hsz => (first | omega | (simp; done) | (simp; omega) | (simp at *; omega)))) | (with_reducible refine Below.drew ?_) | (with_reducible refine below_drewN ?_ _) | ((with_reducible refine Below.trans ?_ (Below.mono (by with_reducible assumption) ?hsz)); (case hsz => (first | omega | (simp; done) | (simp; omega) | (simp at *; omega))))))))).mono ?_); rintro e w1 ⟨rfl, hb1⟩; obtain ⟨hc1, hf1, hz1⟩ := bcell hb1; (try simp at hz1); (try have hy1 : w.heap.size < w1.heap.size := by omega); (try have hy2 : w.heap.size + 1 < w1.heap.size := by omega); (try have hy3 : w.heap.size + 1 + 1 < w1.heap.size := by omega))))
    refine (sidesBetween_any n i j _ hn i0 (by omega) j0 (by omega)).mono ?_
    rintro e w2 ⟨r, rfl, hr, hb2⟩
    obtain ⟨A2, c2, rfl, hk1, hk2, hk3, hcell⟩ := hr.form
    unfold maxLen at hk2
    obtain ⟨g, rfl, hg1, hg2, q0, -⟩ := hcell w2 (Below.refl _ _) 0 hpos
    obtain ⟨hc2', hf2', hz2'⟩ := bcell hb2
    have hsz : w.heap.size < w2.heap.size := by (try simp at hz2'); omega
    have hbw : Below w.heap.size w w2 := by (repeat (first | (with_reducible assumption) | (with_reducible exact Below.refl _ _) | ((with_reducible refine Below.alloc ?_ ?hsz _); (case hsz => (first | omega | (simp; done) | (simp; omega) | (simp at *; omega)))) | ((with_reducible refine Below.setCell ?_ ?hsz _); (case hsz => (first | omega | (simp; done) | (simp; omega) | (simp at *; omega)))) | (with_reducible refine Below.drew ?_) | (with_reducible refine below_drewN ?_ _) | ((with_reducible refine Below.trans ?_ (Below.mono (by with_reducible assumption) ?hsz)); (case hsz => (first | omega | (simp; done) | (simp; omega) | (simp at *; omega))))))
    have e1 : w2.cell? ⟨w.heap.size, 1, none⟩ = some (.slice A ps.length c) := (hc2' _ _ (by (first | omega | (simp; done) | (simp; omega) | (simp at *; omega)))).trans ((hc1 _ _ (by (first | omega | (simp; done) | (simp; omega) | (simp at *; omega)))).trans (by simp))
    have S0 := Hside.out 0 hpos
    clear hc2' hf2' hb2 hc1 hf1 hb1
    go_wp2
    go_region_held3 (fun w' => w'.cell? ⟨w.heap.size, 1, none⟩ = some (.slice A ps.length c) ∧ w'.cell? ⟨g, 0, none⟩ = some (.int .i64 (sidesL n i j)[0]))
      (first | go_keep | (go_split_ands; refine ⟨?_, ?_⟩ <;> (repeat (first | (with_reducible assumption) | ((with_reducible refine (Below.cell (by with_reducible assumption) ?hsz).trans ?_); (case hsz => (first | omega | (simp; done) | (simp; omega) | (simp at *; omega)))) | ((with_reducible refine (World.cell?_alloc_lt _ _ _ ?hsz).trans ?_); (case hsz => (first | omega | (simp; done) | (simp; omega) | (simp at *; omega)))) | ((with_reducible refine (World.cell?_setCell_other _ _ _ _ ?hsz).trans ?_); (case hsz => (intro h; injection h with h1 h2; omega)))))))
      ((go_at_call 83; (with_reducible refine (roomOf_any _ n _ ps b _ (hp0.keep (by (repeat (first | (with_reducible assumption) | (with_reducible exact Below.refl _ _) | ((with_reducible refine Below.alloc ?_ ?hsz _); (case hsz => (first | omega | (simp; done) | (simp; omega) | (simp at *; omega)))) | ((with_reducible refine Below.setCell ?_ ?hsz _); (case hsz => (first | omega | (simp; done) | (simp; omega) | (simp at *; omega)))) | (with_reducible refine Below.drew ?_) | (with_reducible refine below_drewN ?_ _) | ((with_reducible refine Below.trans ?_ (Below.mono (by with_reducible assumption) ?hsz)); (case hsz => (first | omega | (simp; done) | (simp; omega) | (simp at *; omega)))))))) Hok.out S0.1 S0.2).mono ?_); rintro e w4 ⟨rfl, hb4⟩; obtain ⟨hc4, hf4, hz4⟩ := bcell hb4))
    have hL1 : 1 ≤ (sidesL n i j).length := hpos
    have hb42 : Below w2.heap.size w2 w4 := ⟨hb4.os, hb4.tape, hb4.output, hb4.size, hb4.block⟩
    have hz42 := hb42.size
    clear hb4
    have hzz4 : w.heap.size < w4.heap.size := by omega
    have hbw4 : Below w.heap.size w w4 := by (repeat (first | (with_reducible assumption) | (with_reducible exact Below.refl _ _) | ((with_reducible refine Below.alloc ?_ ?hsz _); (case hsz => (first | omega | (simp; done) | (simp; omega) | (simp at *; omega)))) | ((with_reducible refine Below.setCell ?_ ?hsz _); (case hsz => (first | omega | (simp; done) | (simp; omega) | (simp at *; omega)))) | (with_reducible refine Below.drew ?_) | (with_reducible refine below_drewN ?_ _) | ((with_reducible refine Below.trans ?_ (Below.mono (by with_reducible assumption) ?hsz)); (case hsz => (first | omega | (simp; done) | (simp; omega) | (simp at *; omega))))))
    have e4 := (hc4 _ _ hsz).trans e1
    clear hc4 hf4 e1
    go_wp2
    all_goals
      go_loopw [31, 9] (fun t m wr => ∃ k : Nat, k ≤ (sidesL n i j).length - 1 ∧ t = .int .i64 k ∧ m = .int .i64 (minL ps (room (sidesL n i j)[0] ps) ((sidesL n i j).tail.take k)) ∧ Below w4.heap.size w4 wr) (fun t _ _ => ((sidesL n i j).length - 1) - (intOf t).toNat)
      case atStart => exact ⟨0, by omega, rfl, by simp [minL], Below.refl _ _⟩
      case round =>
        obtain ⟨k, hk, rfl, rfl, hb⟩ := hrel
        have hbw : Below w.heap.size w wr := by (repeat (first | (with_reducible assumption) | (with_reducible exact Below.refl _ _) | ((with_reducible refine Below.alloc ?_ ?hsz _); (case hsz => (first | omega | (simp; done) | (simp; omega) | (simp at *; omega)))) | ((with_reducible refine Below.setCell ?_ ?hsz _); (case hsz => (first | omega | (simp; done) | (simp; omega) | (simp at *; omega)))) | (with_reducible refine Below.drew ?_) | (with_reducible refine below_drewN ?_ _) | ((with_reducible refine Below.trans ?_ (Below.mono (by with_reducible assumption) ?hsz)); (case hsz => (first | omega | (simp; done) | (simp; omega) | (simp at *; omega))))))
        have hb2r : Below w2.heap.size w2 wr := hb42.trans (hb.mono hz42)
        have e5 := (hb.cell (p := ⟨w.heap.size, 1, none⟩) hzz4).trans e4
        have hzr := hb.size
        by_cases hlt : k < (sidesL n i j).length - 1
        · first
            | (exfalso; omega)
            | (have hk1 : 1 + k < (sidesL n i j).length := by omega
               obtain ⟨g', hg', hg1', hg2', q1, -⟩ := hcell wr hb2r (1 + k) hk1
               injection hg' with hg'
               injection hg' with hg' _
               subst hg'
               have S1 := Hside.out (1 + k) hk1
               have Hs : Hid (minL ps (room (sidesL n i j)[0] ps) ((sidesL n i j).tail.take (k + 1)) = min (minL ps (room (sidesL n i j)[0] ps) ((sidesL n i j).tail.take k)) (room (sidesL n i j)[1 + k] ps)) := Lib.hid (by
                 rw [minL_snoc ps _ _ k (by simp; omega)]
                 have ht : (sidesL n i j).tail[k]'(by simp; omega) = (sidesL n i j)[1 + k] := by simp [Nat.add_comm]
                 rw [ht])
               go_wp2_with (first
                 | (go_at_call 83; ((with_reducible refine (roomOf_any _ n _ ps b _ (hp0.keep (by (repeat (first | (with_reducible assumption) | (with_reducible exact Below.refl _ _) | ((with_reducible refine Below.alloc ?_ ?hsz _); (case hsz => (first | omega | (simp; done) | (simp; omega) | (simp at *; omega)))) | ((with_reducible refine Below.setCell ?_ ?hsz _); (case hsz => (first | omega | (simp; done) | (simp; omega) | (simp at *; omega)))) | (with_reducible refine Below.drew ?_) | (with_reducible refine below_drewN ?_ _) | ((with_reducible refine Below.trans ?_ (Below.mono (by with_reducible assumption) ?hsz)); (case hsz => (first | omega | (simp; done) | (simp; omega) | (simp at *; omega)))))))) Hok.out S1.1 S1.2).mono ?_); rintro e w1 ⟨rfl, hb1⟩; obtain ⟨hc1, hf1, hz1⟩ := bcell hb1; (try simp at hz1); (try have hy1 : w.heap.size < w1.heap.size := by omega); (try have hy2 : w.heap.size + 1 < w1.heap.size := by omega); (try have hy3 : w.heap.size + 1 + 1 < w1.heap.size := by omega))))
               go_roundw
               case rel => exact ⟨k + 1, by omega, by go_num, by rw [Hs.out]; exact int_eq (min_if _ _), by (repeat (first | (with_reducible assumption) | (with_reducible exact Below.refl _ _) | ((with_reducible refine Below.alloc ?_ ?hsz _); (case hsz => (first | omega | (simp; done) | (simp; omega) | (simp at *; omega)))) | ((with_reducible refine Below.setCell ?_ ?hsz _); (case hsz => (first | omega | (simp; done) | (simp; omega) | (simp at *; omega)))) | (with_reducible refine Below.drew ?_) | (with_reducible refine below_drewN ?_ _) | ((with_reducible refine Below.trans ?_ (Below.mono (by with_reducible assumption) ?hsz)); (case hsz => (first | omega | (simp; done) | (simp; omega) | (simp at *; omega))))))⟩
               case measure => simp [intOf]; omega)
        · go_wp2
          have hk2 : k = (sidesL n i j).length - 1 := by omega
          subst hk2
          go_ret2
          exact ⟨ret_ib (by rw [Hr.out, ← Hleast.out, List.drop_one, List.take_of_length_le (by simp)]), by (repeat (first | (with_reducible assumption) | (with_reducible exact Below.refl _ _) | ((with_reducible refine Below.alloc ?_ ?hsz _); (case hsz => (first | omega | (simp; done) | (simp; omega) | (simp at *; omega)))) | ((with_reducible refine Below.setCell ?_ ?hsz _); (case hsz => (first | omega | (simp; done) | (simp; omega) | (simp at *; omega)))) | (with_reducible refine Below.drew ?_) | (with_reducible refine below_drewN ?_ _) | ((with_reducible refine Below.trans ?_ (Below.mono (by with_reducible assumption) ?hsz)); (case hsz => (first | omega | (simp; done) | (simp; omega) | (simp at *; omega))))))⟩
  · have he' : endsB n ps i j = false := by simpa using he
    have Hr := Lib.hid (leastR_no he')
    clear he
    go_enter Try.func45, Try.ntmps45
    go_wp2_with (first
      | (go_at_call 76; ((with_reducible refine (endsOk_any _ _ _ _ ps b _ (hp0.keep (by (repeat (first | (with_reducible assumption) | (with_reducible exact Below.refl _ _) | ((with_reducible refine Below.alloc ?_ ?hsz _); (case hsz => (first | omega | (simp; done) | (simp; omega) | (simp at *; omega)))) | ((with_reducible refine Below.setCell ?_ ?hsz _); (case hsz => (first | omega | (simp; done) | (simp; omega) | (simp at *; omega)))) | (with_reducible refine Below.drew ?_) | (with_reducible refine below_drewN ?_ _) | ((with_reducible refine Below.trans ?_ (Below.mono (by with_reducible assumption) ?hsz)); (case hsz => (first | omega | (simp; done) | (simp; omega) | (simp at *; omega))))))))).mono ?_); rintro e w1 ⟨rfl, hb1⟩; obtain ⟨hc1, hf1, hz1⟩ := bcell hb1; (try simp at hz1); (try have hy1 : w.heap.size < w1.heap.size := by omega); (try have hy2 : w.heap.size + 1 < w1.heap.size := by omega); (try have hy3 : w.heap.size + 1 + 1 < w1.heap.size := by omega))))
    go_ret2
    exact ⟨ret_ib (by rw [Hr.out]), by (repeat (first | (with_reducible assumption) | (with_reducible exact Below.refl _ _) | ((with_reducible refine Below.alloc ?_ ?hsz _); (case hsz => (first | omega | (simp; done) | (simp; omega) | (simp at *; omega)))) | ((with_reducible refine Below.setCell ?_ ?hsz _); (case hsz => (first | omega | (simp; done) | (simp; omega) | (simp at *; omega)))) | (with_reducible refine Below.drew ?_) | (with_reducible refine below_drewN ?_ _) | ((with_reducible refine Below.trans ?_ (Below.mono (by with_reducible assumption) ?hsz)); (case hsz => (first | omega | (simp; done) | (simp; omega) | (simp at *; omega))))))⟩

end Go.Proofs.Ytabkhpeoeihmmaa
