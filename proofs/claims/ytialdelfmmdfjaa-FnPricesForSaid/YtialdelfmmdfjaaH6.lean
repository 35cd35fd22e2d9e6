/- Contracts of the functions of chapter 6 in the program: PricesOk, for prices that are not large. -/
import Derived.Test.YtialdelfmmdfjaaGH
import Derived.Test.YtialdelfmmdfjaaK5
import Derived.Test.YtialdelfmmdfjaaR
import Derived.Test.YtialdelfmmdfjaaW3
namespace Go.Proofs.Ytialdelfmmdfjaa
open Go.RowKit

/-- a step costs less than the prices of its ends differ -/
def badP (ps : List Pp) (P : List Int) (s : Nat) : Bool := decide (P.getD (stFr ps s).toNat 0 + stCo ps s < P.getD (stTo ps s).toNat 0)
def pricesB (n : Int) (ps : List Pp) (xs P : List Int) : Bool := holdsB n ps xs && (decide ((P.length : Int) = n) && !((stL ps xs).any (badP ps P)))
def smallP (P : List Int) : Prop := ∀ v, -1000 ≤ P.getD v 0 ∧ P.getD v 0 ≤ 1000

theorem comesTo_any (p c o : Int) (w : World) (hp : -1000 ≤ p ∧ p ≤ 1000) (hc : -9 ≤ c ∧ c ≤ 9) :
    Calls Try.prog 52 #[.int .i64 p, .int .i64 c, .int .i64 o] w fun e w' => e = .returned (.bool (!decide (p + c < o))) ∧ Below w.heap.size w w' := by
  have hw : IntKind.i64.wrap (p + c) = p + c := IntWalk.i64_in _ (by omega)
  have hw2 : RowKit.wrap64 (p + c) = p + c := IntWalk.wrap64_in _ (by omega)
  have HR := Lib.hid (show decide (o ≤ p + c) = !decide (p + c < o) by by_cases h : p + c < o <;> simp [h] <;> omega)
  rcases Int.lt_trichotomy c 0 with h | h | h
  · have h1 : decide (0 < c) = false := decide_eq_false (by omega)
    have h2 : decide (p < p + c) = false := decide_eq_false (by omega)
    go_enter Try.func52, Try.ntmps52
    go_wp2
    all_goals first
      | (go_ret; exact ⟨ret_bool (by first | exact HR.out | (rw [← HR.out])), by (repeat (first | (with_reducible assumption) | (with_reducible exact Below.refl _ _) | ((with_reducible refine Below.alloc ?_ ?hsz _); (case hsz => (first | omega | (simp; done) | (simp; omega) | (simp at *; omega)))) | ((with_reducible refine Below.setCell ?_ ?hsz _); (case hsz => (first | omega | (simp; done) | (simp; omega) | (simp at *; omega)))) | (with_reducible refine Below.drew ?_) | (with_reducible refine below_drewN ?_ _) | ((with_reducible refine Below.trans ?_ (Below.mono (by with_reducible assumption) ?hsz)); (case hsz => (first | omega | (simp; done) | (simp; omega) | (simp at *; omega))))))⟩)
      | (exfalso; omega)
  · subst h
    go_enter Try.func52, Try.ntmps52
    go_wp2
    all_goals first
      | (go_ret; exact ⟨ret_bool (by first | exact HR.out | (rw [← HR.out, Int.add_zero]) | (rw [← HR.out]; simp)), by (repeat (first | (with_reducible assumption) | (with_reducible exact Below.refl _ _) | ((with_reducible refine Below.alloc ?_ ?hsz _); (case hsz => (first | omega | (simp; done) | (simp; omega) | (simp at *; omega)))) | ((with_reducible refine Below.setCell ?_ ?hsz _); (case hsz => (first | omega | (simp; done) | (simp; omega) | (simp at *; omega)))) | (with_reducible refine Below.drew ?_) | (with_reducible refine below_drewN ?_ _) | ((with_reducible refine Below.trans ?_ (Below.mono (by with_reducible assumption) ?hsz)); (case hsz => (first | omega | (simp; done) | (simp; omega) | (simp at *; omega))))))⟩)
      | (exfalso; omega)
  · have h1 : decide (p + c < p) = false := decide_eq_false (by omega)
    go_enter Try.func52, Try.ntmps52
    go_wp2
    all_goals first
      | (go_ret; exact ⟨ret_bool (by first | exact HR.out | (rw [← HR.out])), by (repeat (first | (with_reducible assumption) | (with_reducible exact Below.refl _ _) | ((with_reducible refine Below.alloc ?_ ?hsz _); (case hsz => (first | omega | (simp; done) | (simp; omega) | (simp at *; omega)))) | ((with_reducible refine Below.setCell ?_ ?hsz _); (case hsz => (first | omega | (simp; done) | (simp; omega) | (simp at *; omega)))) | (with_reducible refine Below.drew ?_) | (with_reducible refine below_drewN ?_ _) | ((with_reducible refine Below.trans ?_ (Below.mono (by with_reducible assumption) ?hsz)); (case hsz => (first | omega | (simp; done) | (simp; omega) | (simp at *; omega))))))⟩)
      | (exfalso; omega)

set_option maxHeartbeats 2000000 in
set_option maxRecDepth 20000 in
theorem pricesFn_any (s bn bp gp N cap : Nat) (v : Value) (ps : List Pp) (P : List Int) (b bP : Nat) (w : World) (hp : Pipes w b v ps) (hR : Row w bP gp N cap P) (hs : s < 2 * ps.length) (hl : ps.length ≤ 7) (hc : ∀ p ∈ ps, -9 ≤ p.co ∧ p.co ≤ 9)
    (hsm : smallP P) (h1 : 0 ≤ stFr ps s ∧ stFr ps s < N) (h2 : 0 ≤ stTo ps s ∧ stTo ps s < N)
    (d1 : w.cell? ⟨bn, 1, none⟩ = some v) (d0 : w.cell? ⟨bp, 0, none⟩ = some (.slice (some ⟨gp, 0, none⟩) N cap)) (hbn : bn < w.heap.size) (hbp : bp < w.heap.size) :
    Calls Try.prog 51 #[.int .i64 s, .pointer (some ⟨bn, 0, none⟩), .pointer (some ⟨bp, 0, none⟩)] w fun e w' => e = .returned (.bool (badP ps P s)) ∧ Below w.heap.size w w' := by
  have hp0 := hp
  obtain ⟨A, c, rfl, -, -, -, -⟩ := hp.form
  obtain ⟨f, hf⟩ : ∃ f : Nat, stFr ps s = (f : Int) := ⟨(stFr ps s).toNat, by omega⟩
  obtain ⟨t, ht⟩ : ∃ t : Nat, stTo ps s = (t : Int) := ⟨(stTo ps s).toNat, by omega⟩
  have hB : badP ps P s = decide (P.getD f 0 + stCo ps s < P.getD t 0) := by rw [badP, hf, ht]; rfl
  have hco := stCo_bd hc hs
  have ba := hsm f
  have HBD := Lib.hid hB
  have hf1 : f < N := by omega
  have ht1 : t < N := by omega
  go_enter Try.func51, Try.ntmps51
  go_wp2_with fail
  with_reducible refine (stepEnds_any s _ ps b _ (hp0.keep (by (repeat (first | (with_reducible assumption) | (with_reducible exact Below.refl _ _) | ((with_reducible refine Below.alloc ?_ ?hsz _); (case hsz => (first | omega | (simp; done) | (simp; omega) | (simp at *; omega)))) | ((with_reducible refine Below.setCell ?_ ?hsz _); (case hsz => (first | omega | (simp; done) | (simp; omega) | (simp at *; omega)))) | (with_reducible refine Below.drew ?_) | (with_reducible refine below_drewN ?_ _) | ((with_reducible refine Below.trans ?_ (Below.mono (by with_reducible assumption) ?hsz)); (case hsz => (first | omega | (simp; done) | (simp; omega) | (simp at *; omega)))))))) hs hl).mono ?_
  rintro e w1 ⟨rfl, hb1⟩
  have hB1 : Below w.heap.size w w1 := by (repeat (first | (with_reducible assumption) | (with_reducible exact Below.refl _ _) | ((with_reducible refine Below.alloc ?_ ?hsz _); (case hsz => (first | omega | (simp; done) | (simp; omega) | (simp at *; omega)))) | ((with_reducible refine Below.setCell ?_ ?hsz _); (case hsz => (first | omega | (simp; done) | (simp; omega) | (simp at *; omega)))) | (with_reducible refine Below.drew ?_) | (with_reducible refine below_drewN ?_ _) | ((with_reducible refine Below.trans ?_ (Below.mono (by with_reducible assumption) ?hsz)); (case hsz => (first | omega | (simp; done) | (simp; omega) | (simp at *; omega))))))
  have hz1 := hB1.size
  rw [hf, ht]
  have hR1 := hR.keep hB1
  have k1 := (hB1.cell (p := ⟨bn, 1, none⟩) hbn).trans d1
  have k0 := (hB1.cell (p := ⟨bp, 0, none⟩) hbp).trans d0
  have kf := (hR1.at' f hf1).1
  have kt := (hR1.at' t ht1).1
  have hgp := hR1.lt.2
  obtain ⟨hcap1, hcap2⟩ := hR1.capd
  unfold maxLen at hcap2
  have hp1 := hp0.keep hB1
  go_wp2_with fail
  have hd0 := fun p : Bw w1 => (bw_cell p (show bp < w1.heap.size by omega)).trans k0
  have hd1 := fun p : Bw w1 => (bw_cell p (show bn < w1.heap.size by omega)).trans k1
  have hdf := fun p : Bw w1 => (bw_cell p hgp).trans kf
  have hdt := fun p : Bw w1 => (bw_cell p hgp).trans kt
  have Hst : Hid (∀ p : Bw w1, Calls Try.prog 38 #[.slice A ps.length c, .int .i64 s] p.v fun e w' => e = .returned (.int .i64 (stCo ps s)) ∧ Below p.v.heap.size p.v w') :=
    Lib.hid fun p => stepCost_any s _ ps b _ (hp1.keep p.h) hs hl hc
  generalize P.getD f 0 = xf at *
  generalize P.getD t 0 = xt at *
  generalize stCo ps s = co at *
  have Hct : Hid (∀ p : Bw w1, Calls Try.prog 52 #[.int .i64 xf, .int .i64 co, .int .i64 xt] p.v fun e w' => e = .returned (.bool (!decide (xf + co < xt))) ∧ Below p.v.heap.size p.v w') :=
    Lib.hid fun p => comesTo_any xf co xt _ ba hco
  obtain ⟨bz, hbz⟩ : ∃ bz, decide (xf + co < xt) = bz := ⟨_, rfl⟩
  rw [hbz] at Hct HBD
  clear hbz kf kt k0 k1 hf ht hB hR hR1 hp hp0 hp1 d0 d1 h1 h2
  refine wp_region_bw (by kernel_rfl) (by kernel_rfl) ?_
  repeat (go_big_quiet_step (first | (go_at_call 38; refine calls_bw (Hst.out _)) | (go_at_call 52; refine calls_bw (Hct.out _))))
  refine wpQuiet_nil ?_
  rintro _ ⟨pw, rfl⟩
  have hB2 := hB1.trans (pw.h.mono hB1.size)
  go_wp2
  go_ret
  exact ⟨ret_bool (by first | exact HBD.out.symm | (rw [HBD.out]; simp)), hB2⟩

set_option maxHeartbeats 1000000 in
set_option maxRecDepth 20000 in
theorem indexPrices_any (bn bp gp N cap : Nat) (u v : Value) (l : List Nat) (ps : List Pp) (P : List Int) (b b0 bP : Nat) (w : World) (h0 : Ints w b0 u (ofS l)) (hp : Pipes w b v ps) (hR : Row w bP gp N cap P) (hl : ps.length ≤ 7) (hc : ∀ p ∈ ps, -9 ≤ p.co ∧ p.co ≤ 9)
    (hsm : smallP P) (hin : insS N ps l)
    (d1 : w.cell? ⟨bn, 1, none⟩ = some v) (d0 : w.cell? ⟨bp, 0, none⟩ = some (.slice (some ⟨gp, 0, none⟩) N cap)) (hbn : bn < w.heap.size) (hbp : bp < w.heap.size) :
    Calls Try.prog 78 #[u, .func (Fn.func 51) #[] #[.pointer (some ⟨bn, 0, none⟩), .pointer (some ⟨bp, 0, none⟩)]] w fun e w' => ∃ r : Int, e = .returned (.int .i64 r) ∧ decide (0 ≤ r) = l.any (badP ps P) ∧ Below w.heap.size w w' := by
  obtain ⟨A, ca, rfl, hc1, hc2, hsm2, hcell⟩ := h0.form
  unfold maxLen at hc2
  have hlS : (ofS l).length = l.length := by simp
  rw [hlS] at hc1 hsm2 ⊢
  have hlS := Lib.hid hlS
  have hin' := hin
  unfold insS at hin'
  have HI := Lib.hid hin'
  clear hin hin'
  go_enter Try.func78, Try.ntmps78
  go_wp2
  go_loopw [8] (fun i wr => ∃ j : Nat, j ≤ l.length ∧ i = .int .i64 j ∧ (∀ e ∈ l.take j, (fun e : Nat => !badP ps P e) e = true) ∧ Below w.heap.size w wr) (fun i _ => l.length - (intOf i).toNat)
  case atStart => exact ⟨0, by omega, rfl, by simp, Below.refl _ _⟩
  case round =>
    obtain ⟨j, hj, rfl, hall, hb⟩ := hrel
    have Hall := Lib.hid hall
    clear hall
    have hzb := hb.size
    by_cases hlt : j < l.length
    · obtain ⟨g, rfl, hg1, hg2, c0, -⟩ := hcell wr hb j (by rw [hlS.out]; exact hlt)
      have c0' : wr.cell? ⟨g, j, none⟩ = some (.int .i64 (l[j] : Nat)) := by rw [c0]; simp
      clear c0
      have e1 := (hb.cell (p := ⟨bn, 1, none⟩) hbn).trans d1
      have e0 := (hb.cell (p := ⟨bp, 0, none⟩) hbp).trans d0
      cases hx : badP ps P l[j]
      · have Hn := Lib.hid (all_take (f := fun e : Nat => !badP ps P e) hlt Hall.out (by simp [hx]))
        go_wp2_with fail
        with_reducible refine (pricesFn_any l[j] bn bp gp N cap _ ps P b bP _ (hp.keep hb) (hR.keep hb) (HI.out _ (List.getElem_mem hlt)).1 hl hc hsm (HI.out _ (List.getElem_mem hlt)).2.1 (HI.out _ (List.getElem_mem hlt)).2.2.1 e1 e0 (by omega) (by omega)).mono ?_
        rintro e w1 ⟨rfl, hb1⟩
        rw [hx]
        clear hx e0 e1
        go_wp2
        go_roundw
        case rel => exact ⟨j + 1, by omega, by go_num, Hn.out, by (repeat (first | (with_reducible assumption) | (with_reducible exact Below.refl _ _) | ((with_reducible refine Below.alloc ?_ ?hsz _); (case hsz => (first | omega | (simp; done) | (simp; omega) | (simp at *; omega)))) | ((with_reducible refine Below.setCell ?_ ?hsz _); (case hsz => (first | omega | (simp; done) | (simp; omega) | (simp at *; omega)))) | (with_reducible refine Below.drew ?_) | (with_reducible refine below_drewN ?_ _) | ((with_reducible refine Below.trans ?_ (Below.mono (by with_reducible assumption) ?hsz)); (case hsz => (first | omega | (simp; done) | (simp; omega) | (simp at *; omega))))))⟩
        case measure => simp [intOf]; omega
      · have Hu : Hid (l.any (badP ps P) = true) := Lib.hid (by
          rw [List.any_eq_true]
          exact ⟨l[j], List.getElem_mem hlt, hx⟩)
        go_wp2_with fail
        with_reducible refine (pricesFn_any l[j] bn bp gp N cap _ ps P b bP _ (hp.keep hb) (hR.keep hb) (HI.out _ (List.getElem_mem hlt)).1 hl hc hsm (HI.out _ (List.getElem_mem hlt)).2.1 (HI.out _ (List.getElem_mem hlt)).2.2.1 e1 e0 (by omega) (by omega)).mono ?_
        rintro e w1 ⟨rfl, hb1⟩
        rw [hx]
        clear hx e0 e1
        go_wp2
        go_ret
        exact ⟨_, rfl, by rw [Hu.out]; simp, by (repeat (first | (with_reducible assumption) | (with_reducible exact Below.refl _ _) | ((with_reducible refine Below.alloc ?_ ?hsz _); (case hsz => (first | omega | (simp; done) | (simp; omega) | (simp at *; omega)))) | ((with_reducible refine Below.setCell ?_ ?hsz _); (case hsz => (first | omega | (simp; done) | (simp; omega) | (simp at *; omega)))) | (with_reducible refine Below.drew ?_) | (with_reducible refine below_drewN ?_ _) | ((with_reducible refine Below.trans ?_ (Below.mono (by with_reducible assumption) ?hsz)); (case hsz => (first | omega | (simp; done) | (simp; omega) | (simp at *; omega))))))⟩
    · have Hu : Hid (l.any (badP ps P) = false) := Lib.hid (by
        have hall := Hall.out
        rw [List.take_of_length_le (by omega)] at hall
        rw [List.any_eq_false]
        intro e he
        simpa using hall e he)
      go_wp2
      go_ret
      exact ⟨_, rfl, by rw [Hu.out]; rfl, by (repeat (first | (with_reducible assumption) | (with_reducible exact Below.refl _ _) | ((with_reducible refine Below.alloc ?_ ?hsz _); (case hsz => (first | omega | (simp; done) | (simp; omega) | (simp at *; omega)))) | ((with_reducible refine Below.setCell ?_ ?hsz _); (case hsz => (first | omega | (simp; done) | (simp; omega) | (simp at *; omega)))) | (with_reducible refine Below.drew ?_) | (with_reducible refine below_drewN ?_ _) | ((with_reducible refine Below.trans ?_ (Below.mono (by with_reducible assumption) ?hsz)); (case hsz => (first | omega | (simp; done) | (simp; omega) | (simp at *; omega))))))⟩

set_option maxHeartbeats 1000000 in
set_option maxRecDepth 20000 in
theorem containsPrices_any (bn bp gp N cap : Nat) (u v : Value) (l : List Nat) (ps : List Pp) (P : List Int) (b b0 bP : Nat) (w : World) (h0 : Ints w b0 u (ofS l)) (hp : Pipes w b v ps) (hR : Row w bP gp N cap P) (hl : ps.length ≤ 7) (hc : ∀ p ∈ ps, -9 ≤ p.co ∧ p.co ≤ 9)
    (hsm : smallP P) (hin : insS N ps l)
    (d1 : w.cell? ⟨bn, 1, none⟩ = some v) (d0 : w.cell? ⟨bp, 0, none⟩ = some (.slice (some ⟨gp, 0, none⟩) N cap)) (hbn : bn < w.heap.size) (hbp : bp < w.heap.size) :
    Calls Try.prog 50 #[u, .func (Fn.func 51) #[] #[.pointer (some ⟨bn, 0, none⟩), .pointer (some ⟨bp, 0, none⟩)]] w fun e w' => e = .returned (.bool (l.any (badP ps P))) ∧ Below w.heap.size w w' := by
  have h00 := h0
  obtain ⟨A, ca, rfl, -, -, -, -⟩ := h0.form
  obtain ⟨m0, hm0⟩ : ∃ m, (ofS l).length = m := ⟨_, rfl⟩
  rw [hm0] at h00 ⊢
  clear h0 hm0
  go_enter Try.func50, Try.ntmps50
  go_wp2_with fail
  refine (indexPrices_any bn bp gp N cap _ v l ps P b b0 bP _ h00 hp hR hl hc hsm hin d1 d0 hbn hbp).mono ?_
  rintro e w1 ⟨r, rfl, hr, hb1⟩
  go_wp2
  go_ret
  exact ⟨by first | rfl | exact ret_bool hr, by (repeat (first | (with_reducible assumption) | (with_reducible exact Below.refl _ _) | ((with_reducible refine Below.alloc ?_ ?hsz _); (case hsz => (first | omega | (simp; done) | (simp; omega) | (simp at *; omega)))) | ((with_reducible refine Below.setCell ?_ ?hsz _); (case hsz => (first | omega | (simp; done) | (simp; omega) | (simp at *; omega)))) | (with_reducible refine Below.drew ?_) | (with_reducible refine below_drewN ?_ _) | ((with_reducible refine Below.trans ?_ (Below.mono (by with_reducible assumption) ?hsz)); (case hsz => (first | omega | (simp; done) | (simp; omega) | (simp at *; omega))))))⟩

theorem prices_hold {n : Int} {ps : List Pp} {xs P : List Int} (h : holdsB n ps xs = false) : pricesB n ps xs P = false := by simp [pricesB, h]
theorem prices_len {n : Int} {ps : List Pp} {xs P : List Int} (h : (P.length : Int) ≠ n) : pricesB n ps xs P = false := by simp [pricesB, h]
theorem prices_yes {n : Int} {ps : List Pp} {xs P : List Int} (h : holdsB n ps xs = true) (hl : (P.length : Int) = n) : pricesB n ps xs P = !((stL ps xs).any (badP ps P)) := by simp [pricesB, h, hl]

set_option maxHeartbeats 4000000 in
set_option maxRecDepth 20000 in
theorem pricesOk_any (n : Int) (v u r : Value) (ps : List Pp) (xs P : List Int) (b b' bP : Nat) (w : World) (hp : Pipes w b v ps) (hx : Ints w b' u xs) (hP : Ints w bP r P) (hsm : smallP P) :
    Calls Try.prog 24 #[.agg #[.int .i64 n, v], u, r] w fun e w' => e = .returned (.bool (pricesB n ps xs P)) ∧ Below w.heap.size w w' := by
  have hp0 := hp
  have hx0 := hx
  have hP0 := hP
  obtain ⟨A, c, rfl, -, -, -, -⟩ := hp.form
  obtain ⟨Ax, cx, rfl, -, -, -, -⟩ := hx.form
  cases hh : holdsB n ps xs
  · obtain ⟨AP, cP, rfl, -, -, -, -⟩ := hP.form
    have HR := Lib.hid (prices_hold (P := P) hh)
    go_enter Try.func24, Try.ntmps24
    go_wp2_with fail
    refine (holdsOk_any n _ _ ps xs b b' _ (hp0.keep (by (repeat (first | (with_reducible assumption) | (with_reducible exact Below.refl _ _) | ((with_reducible refine Below.alloc ?_ ?hsz _); (case hsz => (first | omega | (simp; done) | (simp; omega) | (simp at *; omega)))) | ((with_reducible refine Below.setCell ?_ ?hsz _); (case hsz => (first | omega | (simp; done) | (simp; omega) | (simp at *; omega)))) | (with_reducible refine Below.drew ?_) | (with_reducible refine below_drewN ?_ _) | ((with_reducible refine Below.trans ?_ (Below.mono (by with_reducible assumption) ?hsz)); (case hsz => (first | omega | (simp; done) | (simp; omega) | (simp at *; omega)))))))) (hx0.keep (by (repeat (first | (with_reducible assumption) | (with_reducible exact Below.refl _ _) | ((with_reducible refine Below.alloc ?_ ?hsz _); (case hsz => (first | omega | (simp; done) | (simp; omega) | (simp at *; omega)))) | ((with_reducible refine Below.setCell ?_ ?hsz _); (case hsz => (first | omega | (simp; done) | (simp; omega) | (simp at *; omega)))) | (with_reducible refine Below.drew ?_) | (with_reducible refine below_drewN ?_ _) | ((with_reducible refine Below.trans ?_ (Below.mono (by with_reducible assumption) ?hsz)); (case hsz => (first | omega | (simp; done) | (simp; omega) | (simp at *; omega))))))))).mono ?_
    rintro e w1 ⟨rfl, hb1⟩
    rw [hh]
    clear hh
    go_wp2
    go_ret
    exact ⟨ret_bool HR.out.symm, by (repeat (first | (with_reducible assumption) | (with_reducible exact Below.refl _ _) | ((with_reducible refine Below.alloc ?_ ?hsz _); (case hsz => (first | omega | (simp; done) | (simp; omega) | (simp at *; omega)))) | ((with_reducible refine Below.setCell ?_ ?hsz _); (case hsz => (first | omega | (simp; done) | (simp; omega) | (simp at *; omega)))) | (with_reducible refine Below.drew ?_) | (with_reducible refine below_drewN ?_ _) | ((with_reducible refine Below.trans ?_ (Below.mono (by with_reducible assumption) ?hsz)); (case hsz => (first | omega | (simp; done) | (simp; omega) | (simp at *; omega))))))⟩
  · by_cases hlen : (P.length : Int) = n
    · have HR := Lib.hid (prices_yes (P := P) hh hlen)
      have hn := holds_net hh
      obtain ⟨n2, n5, hl7, -⟩ := netOk_parts hn
      obtain ⟨hf, hall, hlx⟩ := holds_parts hh
      have ha := (flowOk_parts hf).2.2
      have hr := net_rooms hn
      have hins := stL_ins hn xs
      obtain ⟨N, hN⟩ : ∃ N, P.length = N := ⟨_, rfl⟩
      rw [hN] at hlen
      subst hlen
      have hN1 : 0 < P.length := by omega
      obtain ⟨gp, cP, rfl, hR⟩ := hP0.row hN1
      rw [hN] at hR ⊢
      have HN := Lib.hid (And.intro hn (And.intro hlx (And.intro ha (And.intro hr (And.intro hh hins)))))
      clear hn hlx ha hr hh hins hf hall hN hP hP0 hN1
      have bx0 : Box2 ((w.alloc (.cells #[.int .i64 N, .slice A ps.length c] 25)).alloc (.cells #[.slice (some ⟨gp, 0, none⟩) N cP] 26)) w.heap.size (.int .i64 N) (.slice A ps.length c) := (Box2.new w _ _ _).keep (by (repeat (first | (with_reducible assumption) | (with_reducible exact Below.refl _ _) | ((with_reducible refine Below.alloc ?_ ?hsz _); (case hsz => (first | omega | (simp; done) | (simp; omega) | (simp at *; omega)))) | ((with_reducible refine Below.setCell ?_ ?hsz _); (case hsz => (first | omega | (simp; done) | (simp; omega) | (simp at *; omega)))) | (with_reducible refine Below.drew ?_) | (with_reducible refine below_drewN ?_ _) | ((with_reducible refine Below.trans ?_ (Below.mono (by with_reducible assumption) ?hsz)); (case hsz => (first | omega | (simp; done) | (simp; omega) | (simp at *; omega)))))))
      have q0 : ((w.alloc (.cells #[.int .i64 N, .slice A ps.length c] 25)).alloc (.cells #[.slice (some ⟨gp, 0, none⟩) N cP] 26)).cell? ⟨w.heap.size + 1, 0, none⟩ = some (.slice (some ⟨gp, 0, none⟩) N cP) := by go_simp
      have hB0 : Below w.heap.size w ((w.alloc (.cells #[.int .i64 N, .slice A ps.length c] 25)).alloc (.cells #[.slice (some ⟨gp, 0, none⟩) N cP] 26)) := by (repeat (first | (with_reducible assumption) | (with_reducible exact Below.refl _ _) | ((with_reducible refine Below.alloc ?_ ?hsz _); (case hsz => (first | omega | (simp; done) | (simp; omega) | (simp at *; omega)))) | ((with_reducible refine Below.setCell ?_ ?hsz _); (case hsz => (first | omega | (simp; done) | (simp; omega) | (simp at *; omega)))) | (with_reducible refine Below.drew ?_) | (with_reducible refine below_drewN ?_ _) | ((with_reducible refine Below.trans ?_ (Below.mono (by with_reducible assumption) ?hsz)); (case hsz => (first | omega | (simp; done) | (simp; omega) | (simp at *; omega))))))
      have hz0 : ((w.alloc (.cells #[.int .i64 N, .slice A ps.length c] 25)).alloc (.cells #[.slice (some ⟨gp, 0, none⟩) N cP] 26)).heap.size = w.heap.size + 2 := by simp
      obtain ⟨W0, hW0⟩ : ∃ W, W = ((w.alloc (.cells #[.int .i64 N, .slice A ps.length c] 25)).alloc (.cells #[.slice (some ⟨gp, 0, none⟩) N cP] 26)) := ⟨_, rfl⟩
      rw [← hW0] at bx0 q0 hB0 hz0
      have hz0' : w.heap.size + 2 ≤ W0.heap.size := by omega
      clear hz0
      obtain ⟨bs, d0, d1, -, -⟩ := id bx0
      have d0' := d0
      have d1' := d1
      rw [hW0] at d0' d1'
      go_enter Try.func24, Try.ntmps24
      go_wp2_with fail
      rw [← hW0]
      clear d0' d1' hW0
      refine (holdsOk_any N _ _ ps xs b b' _ (hp0.keep hB0) (hx0.keep hB0)).mono ?_
      rintro e w1 ⟨rfl, hb1⟩
      rw [HN.out.2.2.2.2.1]
      have bx1 := bx0.keep hb1
      have hB1 := hB0.trans (hb1.mono (by omega))
      have q1 := (hb1.cell (p := ⟨w.heap.size + 1, 0, none⟩) (by show w.heap.size + 1 < W0.heap.size; omega)).trans q0
      have hz1 := hb1.size
      clear bx0 hB0 hb1 q0 d0 d1 bs
      obtain ⟨bs, d0, d1, -, -⟩ := id bx1
      go_wp2_with fail
      refine (openSteps_any _ _ ps xs b b' _ (hp0.keep hB1) (hx0.keep hB1) hl7 HN.out.2.1 HN.out.2.2.1 HN.out.2.2.2.1).mono ?_
      rintro e w2 ⟨r2, rfl, hr2, hb2⟩
      have bx2 := bx1.keep hb2
      have hB2 := hB1.trans (hb2.mono hB1.size)
      have q2 := (hb2.cell (p := ⟨w.heap.size + 1, 0, none⟩) (by show w.heap.size + 1 < w1.heap.size; omega)).trans q1
      rw [openL_eq] at hr2
      have hz2 := hb2.size
      clear bx1 d0 d1 bs q1
      obtain ⟨bs, d0, d1, -, -⟩ := id bx2
      have hins := HN.out.2.2.2.2.2
      rw [Int.toNat_natCast] at hins
      have HI := Lib.hid hins
      clear hins
      obtain ⟨A9, c9, rfl, -, -, -, -⟩ := hr2.form
      obtain ⟨L9, hL9⟩ : ∃ L9, (List.map (fun s : Nat => (s : Int)) (stL ps xs)).length = L9 := ⟨_, rfl⟩
      rw [hL9] at hr2 ⊢
      clear hL9
      have hc := fun W (hb : Below w2.heap.size w2 W) => containsPrices_any w.heap.size (w.heap.size + 1) gp N cP _ _ (stL ps xs) ps P b _ bP W (hr2.keep hb) ((hp0.keep hB2).keep hb) ((hR.keep hB2).keep hb) hl7 (net_costs HN.out.1) hsm HI.out ((hb.cell (p := ⟨w.heap.size, 1, none⟩) (by show w.heap.size < w2.heap.size; omega)).trans d1) ((hb.cell (p := ⟨w.heap.size + 1, 0, none⟩) (by show w.heap.size + 1 < w2.heap.size; omega)).trans q2) (by have := hb.size; omega) (by have := hb.size; omega)
      have HC := Lib.hid hc
      clear hc
      go_wp2_with fail
      refine (HC.out _ (by (repeat (first | (with_reducible assumption) | (with_reducible exact Below.refl _ _) | ((with_reducible refine Below.alloc ?_ ?hsz _); (case hsz => (first | omega | (simp; done) | (simp; omega) | (simp at *; omega)))) | ((with_reducible refine Below.setCell ?_ ?hsz _); (case hsz => (first | omega | (simp; done) | (simp; omega) | (simp at *; omega)))) | (with_reducible refine Below.drew ?_) | (with_reducible refine below_drewN ?_ _) | ((with_reducible refine Below.trans ?_ (Below.mono (by with_reducible assumption) ?hsz)); (case hsz => (first | omega | (simp; done) | (simp; omega) | (simp at *; omega)))))))).mono ?_
      rintro e w3 ⟨rfl, hb3⟩
      have hB3 : Below w.heap.size w w3 := hB2.trans (hb3.mono hB2.size)
      go_wp2
      go_ret
      exact ⟨ret_bool (by rw [HR.out]), hB3⟩
    · obtain ⟨AP, cP, rfl, hcP, hcP2, hsP, -⟩ := hP.form
      unfold maxLen at hcP2
      have HR := Lib.hid (prices_len (ps := ps) (xs := xs) hlen)
      obtain ⟨N, hN⟩ : ∃ N, P.length = N := ⟨_, rfl⟩
      rw [hN] at hlen hcP hsP ⊢
      have hne : ((N : Int) != n) = true := by rw [bne_iff_ne]; exact hlen
      clear hN hlen
      have bx0 : Box2 ((w.alloc (.cells #[.int .i64 n, .slice A ps.length c] 25)).alloc (.cells #[.slice AP N cP] 26)) w.heap.size (.int .i64 n) (.slice A ps.length c) := (Box2.new w _ _ _).keep (by (repeat (first | (with_reducible assumption) | (with_reducible exact Below.refl _ _) | ((with_reducible refine Below.alloc ?_ ?hsz _); (case hsz => (first | omega | (simp; done) | (simp; omega) | (simp at *; omega)))) | ((with_reducible refine Below.setCell ?_ ?hsz _); (case hsz => (first | omega | (simp; done) | (simp; omega) | (simp at *; omega)))) | (with_reducible refine Below.drew ?_) | (with_reducible refine below_drewN ?_ _) | ((with_reducible refine Below.trans ?_ (Below.mono (by with_reducible assumption) ?hsz)); (case hsz => (first | omega | (simp; done) | (simp; omega) | (simp at *; omega)))))))
      have q0 : ((w.alloc (.cells #[.int .i64 n, .slice A ps.length c] 25)).alloc (.cells #[.slice AP N cP] 26)).cell? ⟨w.heap.size + 1, 0, none⟩ = some (.slice AP N cP) := by go_simp
      go_enter Try.func24, Try.ntmps24
      go_wp2_with fail
      refine (holdsOk_any n _ _ ps xs b b' _ (hp0.keep (by (repeat (first | (with_reducible assumption) | (with_reducible exact Below.refl _ _) | ((with_reducible refine Below.alloc ?_ ?hsz _); (case hsz => (first | omega | (simp; done) | (simp; omega) | (simp at *; omega)))) | ((with_reducible refine Below.setCell ?_ ?hsz _); (case hsz => (first | omega | (simp; done) | (simp; omega) | (simp at *; omega)))) | (with_reducible refine Below.drew ?_) | (with_reducible refine below_drewN ?_ _) | ((with_reducible refine Below.trans ?_ (Below.mono (by with_reducible assumption) ?hsz)); (case hsz => (first | omega | (simp; done) | (simp; omega) | (simp at *; omega)))))))) (hx0.keep (by (repeat (first | (with_reducible assumption) | (with_reducible exact Below.refl _ _) | ((with_reducible refine Below.alloc ?_ ?hsz _); (case hsz => (first | omega | (simp; done) | (simp; omega) | (simp at *; omega)))) | ((with_reducible refine Below.setCell ?_ ?hsz _); (case hsz => (first | omega | (simp; done) | (simp; omega) | (simp at *; omega)))) | (with_reducible refine Below.drew ?_) | (with_reducible refine below_drewN ?_ _) | ((with_reducible refine Below.trans ?_ (Below.mono (by with_reducible assumption) ?hsz)); (case hsz => (first | omega | (simp; done) | (simp; omega) | (simp at *; omega))))))))).mono ?_
      rintro e w1 ⟨rfl, hb1⟩
      rw [hh]
      have bx1 := bx0.keep hb1
      have hB1 : Below w.heap.size w w1 := by (repeat (first | (with_reducible assumption) | (with_reducible exact Below.refl _ _) | ((with_reducible refine Below.alloc ?_ ?hsz _); (case hsz => (first | omega | (simp; done) | (simp; omega) | (simp at *; omega)))) | ((with_reducible refine Below.setCell ?_ ?hsz _); (case hsz => (first | omega | (simp; done) | (simp; omega) | (simp at *; omega)))) | (with_reducible refine Below.drew ?_) | (with_reducible refine below_drewN ?_ _) | ((with_reducible refine Below.trans ?_ (Below.mono (by with_reducible assumption) ?hsz)); (case hsz => (first | omega | (simp; done) | (simp; omega) | (simp at *; omega))))))
      have q1 := (hb1.cell (p := ⟨w.heap.size + 1, 0, none⟩) (by simp)).trans q0
      obtain ⟨bs, d0, d1, -, -⟩ := id bx1
      have hz1 := hb1.size
      simp at hz1
      have hz1' : w.heap.size + 1 < w1.heap.size := by omega
      clear bx0 q0 hb1 hh
      go_wp2
      go_ret
      exact ⟨ret_bool (by first | exact HR.out.symm | (rw [HR.out]; simp; done) | (rw [HR.out]; simp_all)), by (repeat (first | (with_reducible assumption) | (with_reducible exact Below.refl _ _) | ((with_reducible refine Below.alloc ?_ ?hsz _); (case hsz => (first | omega | (simp; done) | (simp; omega) | (simp at *; omega)))) | ((with_reducible refine Below.setCell ?_ ?hsz _); (case hsz => (first | omega | (simp; done) | (simp; omega) | (simp at *; omega)))) | (with_reducible refine Below.drew ?_) | (with_reducible refine below_drewN ?_ _) | ((with_reducible refine Below.trans ?_ (Below.mono (by with_reducible assumption) ?hsz)); (case hsz => (first | omega | (simp; done) | (simp; omega) | (simp at *; omega))))))⟩

end Go.Proofs.Ytialdelfmmdfjaa
