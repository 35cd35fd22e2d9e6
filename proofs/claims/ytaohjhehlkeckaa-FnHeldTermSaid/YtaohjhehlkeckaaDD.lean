/- Contracts of the draws of terms and numbers. -/
import Derived.Test.YtaohjhehlkeckaaDB
import Derived.Test.YtaohjhehlkeckaaAS
namespace Go.Proofs.Ytaohjhehlkeckaa
open Go.RowKit

/-- what a draw of a row of marks and two numbers leaves -/
def DrawnHeld (w : World) (e : Ending) (w' : World) : Prop :=
  ∃ (r : Value) (ts : List Mk) (a h : Int), e = .returned (.tuple #[r, .int .i64 a, .int .i64 h]) ∧ Marks w' w.heap.size r ts ∧ ts.length ≤ 14 ∧ Below w.heap.size w w' ∧ -1 ≤ a ∧ a ≤ 8 ∧ 0 ≤ h ∧ h ≤ 5

set_option maxHeartbeats 8000000 in
set_option maxRecDepth 20000 in
theorem drawHeldTerm_any (v : Value) (n : Nat) (w : World) (h : ArgBytes w v n) : Calls Try.prog 27 #[v] w (DrawnHeld w) := by
  go_enter Try.func27, Try.ntmps27
  go_wp2_with fail
  refine (l20Open_any v n _ (h.keep (by (repeat (first | (with_reducible assumption) | (with_reducible exact Below.refl _ _) | ((with_reducible refine Below.alloc ?_ ?hsz _); (case hsz => (first | omega | (simp; done) | (simp; omega) | (simp at *; omega)))) | ((with_reducible refine Below.setCell ?_ ?hsz _); (case hsz => (first | omega | (simp; done) | (simp; omega) | (simp at *; omega)))) | (with_reducible refine Below.drew ?_) | (with_reducible refine below_drewN ?_ _) | ((with_reducible refine Below.trans ?_ (Below.mono (by with_reducible assumption) ?hsz)); (case hsz => (first | omega | (simp; done) | (simp; omega) | (simp at *; omega))))))))).mono ?_
  rintro e w1 ⟨A, m, c, rfl, hr1, hb1, hz1⟩
  go_wp2_with fail
  refine (l20Term_any 12 w.heap.size m c 0 A _ hr1 (by omega) (by omega)).mono ?_
  rintro e w2 ⟨r, ts, rfl, hm, hl, hr2, hg2⟩
  have hs2 := hg2.size
  have hb2 : Below w.heap.size w w2 := hb1.trans (below_grow hg2 (by omega) (fun q hq => by injection hq with hq; omega))
  obtain ⟨A9, c9, rfl, -, -, -, -⟩ := hm.form
  obtain ⟨l9, hl9⟩ : ∃ x, ts.length = x := ⟨_, rfl⟩
  rw [hl9] at hm ⊢
  obtain ⟨pn, hpn⟩ : ∃ x, pipesN ts = x := ⟨_, rfl⟩
  have hpb : -1 ≤ pn ∧ pn ≤ 7 := by
    rw [← hpn]
    cases ht : termB ts
    · rw [pipesN_no ht]; omega
    · obtain ⟨T, rfl, -, h7, -⟩ := (termB_iff ts).1 ht
      rw [pipesN_yes ht, Tm.count0]; omega
  have HPN := Lib.hid hpn
  obtain ⟨hpb0, hpb1⟩ := hpb
  clear hpn hl9
  go_wp2_with fail
  refine (specPipesIn_any _ ts _ w2 hm).mono ?_
  rintro e w3 ⟨rfl, hb3⟩
  rw [HPN.out]
  have hr3 := hr2.keep hb3
  have hg23 := grow_below (grow_refl w2 (some w.heap.size)) hb3
  clear hb3 hr2
  by_cases hp1 : pn < 1
  · have hmx : max pn 1 = 1 := by omega
    go_wp2_with fail
    refine (pick_any _ w.heap.size m c _ A _ hr3 (by omega) (by omega) (by omega)).mono ?_
    rintro e w4 ⟨x4, rfl, x40, x41, hr4, hg4, hz4⟩
    have hg24 := grow_more hg23 hg4 (fun q hq => .inr hq)
    clear hr3 hg23 hg4
    go_wp2_with fail
    refine (pick_any 40 w.heap.size m c _ A _ hr4 (by omega) (by omega) (by omega)).mono ?_
    rintro e w5 ⟨x5, rfl, x50, x51, hr5, hg5, hz5⟩
    have hg25 := grow_more hg24 hg5 (fun q hq => .inr hq)
    clear hr4 hg24 hg5
    have ht5 : x5.tdiv 39 = x5 / 39 := Int.tdiv_eq_ediv_of_nonneg x50
    have hw5 : IntKind.i64.wrap (x5.tdiv 39) = x5 / 39 := by rw [ht5, IntWalk.i64_in _ (by omega)]
    have hw6 : IntKind.i64.wrap (x4 - x5 / 39) = x4 - x5 / 39 := by rw [IntWalk.i64_in _ (by omega)]
    go_wp2_with fail
    refine (pick_any 5 w.heap.size m c _ A _ hr5 (by omega) (by omega) (by omega)).mono ?_
    rintro e w6 ⟨x6, rfl, x60, x61, hr6, hg6, hz6⟩
    have hg26 := grow_more hg25 hg6 (fun q hq => .inr hq)
    clear hr5 hg25 hg6
    go_wp2_with fail
    refine (pick_any 30 w.heap.size m c _ A _ hr6 (by omega) (by omega) (by omega)).mono ?_
    rintro e w7 ⟨x7, rfl, x70, x71, hr7, hg7, hz7⟩
    have hg27 := grow_more hg26 hg7 (fun q hq => .inr hq)
    have hfin2 := hm.grownR hg27 (by omega)
    have hbF : Below w.heap.size w w7 := hb2.trans (below_grow hg27 (by omega) (fun q hq => by injection hq with hq; omega))
    clear hr6 hg26 hg7 hr7 hg27
    have ht7 : x7.tdiv 29 = x7 / 29 := Int.tdiv_eq_ediv_of_nonneg x70
    have hw7 : IntKind.i64.wrap (x7.tdiv 29) = x7 / 29 := by rw [ht7, IntWalk.i64_in _ (by omega)]
    have hw8 : IntKind.i64.wrap (x6 + x7 / 29) = x6 + x7 / 29 := by rw [IntWalk.i64_in _ (by omega)]
    go_wp2_with fail
    refine bodyPost_ret (v := .tuple #[.slice A9 l9 c9, .int .i64 (x4 - x5 / 39), .int .i64 (x6 + x7 / 29)]) (by simp [results, Try.results27, go_sem, *]) rfl ⟨_, ts, _, _, rfl, hfin2.mono (by omega), hl, hbF, by omega, by omega, by omega, by omega⟩
  · have hmx : max pn 1 = pn := by omega
    go_wp2_with fail
    refine (pick_any _ w.heap.size m c _ A _ hr3 (by omega) (by omega) (by omega)).mono ?_
    rintro e w4 ⟨x4, rfl, x40, x41, hr4, hg4, hz4⟩
    have hg24 := grow_more hg23 hg4 (fun q hq => .inr hq)
    clear hr3 hg23 hg4
    go_wp2_with fail
    refine (pick_any 40 w.heap.size m c _ A _ hr4 (by omega) (by omega) (by omega)).mono ?_
    rintro e w5 ⟨x5, rfl, x50, x51, hr5, hg5, hz5⟩
    have hg25 := grow_more hg24 hg5 (fun q hq => .inr hq)
    clear hr4 hg24 hg5
    have ht5 : x5.tdiv 39 = x5 / 39 := Int.tdiv_eq_ediv_of_nonneg x50
    have hw5 : IntKind.i64.wrap (x5.tdiv 39) = x5 / 39 := by rw [ht5, IntWalk.i64_in _ (by omega)]
    have hw6 : IntKind.i64.wrap (x4 - x5 / 39) = x4 - x5 / 39 := by rw [IntWalk.i64_in _ (by omega)]
    go_wp2_with fail
    refine (pick_any 5 w.heap.size m c _ A _ hr5 (by omega) (by omega) (by omega)).mono ?_
    rintro e w6 ⟨x6, rfl, x60, x61, hr6, hg6, hz6⟩
    have hg26 := grow_more hg25 hg6 (fun q hq => .inr hq)
    clear hr5 hg25 hg6
    go_wp2_with fail
    refine (pick_any 30 w.heap.size m c _ A _ hr6 (by omega) (by omega) (by omega)).mono ?_
    rintro e w7 ⟨x7, rfl, x70, x71, hr7, hg7, hz7⟩
    have hg27 := grow_more hg26 hg7 (fun q hq => .inr hq)
    have hfin2 := hm.grownR hg27 (by omega)
    have hbF : Below w.heap.size w w7 := hb2.trans (below_grow hg27 (by omega) (fun q hq => by injection hq with hq; omega))
    clear hr6 hg26 hg7 hr7 hg27
    have ht7 : x7.tdiv 29 = x7 / 29 := Int.tdiv_eq_ediv_of_nonneg x70
    have hw7 : IntKind.i64.wrap (x7.tdiv 29) = x7 / 29 := by rw [ht7, IntWalk.i64_in _ (by omega)]
    have hw8 : IntKind.i64.wrap (x6 + x7 / 29) = x6 + x7 / 29 := by rw [IntWalk.i64_in _ (by omega)]
    go_wp2_with fail
    refine bodyPost_ret (v := .tuple #[.slice A9 l9 c9, .int .i64 (x4 - x5 / 39), .int .i64 (x6 + x7 / 29)]) (by simp [results, Try.results27, go_sem, *]) rfl ⟨_, ts, _, _, rfl, hfin2.mono (by omega), hl, hbF, by omega, by omega, by omega, by omega⟩

end Go.Proofs.Ytaohjhehlkeckaa
