/- Contracts of the functions of chapter 12 in the program: steep steps, the steps from a node, BasinOk. -/
import Derived.Test.YtabkhpeoeihmmaaYE
namespace Go.Proofs.Ytabkhpeoeihmmaa
open Go.RowKit

theorem cdrew12 {W : World} {g o : Nat} {v : Value} (h : W.cell? ⟨g, o, none⟩ = some v) : W.drew.cell? ⟨g, o, none⟩ = some v := h
theorem ckeep12 {W W' : World} {g o : Nat} {v : Value} (hb : Below W.heap.size W W') (hg : g < W.heap.size) (h : W.cell? ⟨g, o, none⟩ = some v) : W'.cell? ⟨g, o, none⟩ = some v := (bel_cell hb hg).trans h
theorem openL_at {ps : List Pp} {xs : List Int} {x : Int} (h : x ∈ openL ps xs) : ∃ s : Nat, x = (s : Int) ∧ s ∈ stL ps xs ∧ s < 2 * ps.length := by
  rw [openL_eq] at h
  obtain ⟨s, hs, rfl⟩ := List.mem_map.1 h
  exact ⟨s, rfl, hs, (stL_mem.1 hs).1⟩
theorem openL_any (ps : List Pp) (xs : List Int) (f : Nat → Bool) : (openL ps xs).any (fun x => f x.toNat) = (stL ps xs).any f := by
  rw [openL_eq, List.any_map]
  congr 1
theorem openL_filter (ps : List Pp) (xs : List Int) (f : Nat → Bool) : ((openL ps xs).filter fun x => f x.toNat) = ((stL ps xs).filter f).map fun s : Nat => (s : Int) := by
  rw [openL_eq, List.filter_map]
  congr 1

set_option maxHeartbeats 1000000 in
set_option maxRecDepth 20000 in
theorem hillSteepFn_any {B g : Nat} {n i j : Int} {ps : List Pp} {xs ys : List Int} (s bh : Nat) (w : World) (h : HillOk w B g n i j ps xs ys) (hn : netOkB n ps = true) (hy : hgtIn n ys) (hs : s < 2 * ps.length) (d0 : w.cell? ⟨bh, 0, none⟩ = some (.pointer (some ⟨g, 0, none⟩))) :
    Calls Try.prog 101 #[.int .i64 s, .pointer (some ⟨bh, 0, none⟩)] w fun e w' => e = .returned (.bool (steepF ps ys s)) ∧ Below w.heap.size w w' := by
  have HF := Lib.hid (show steepF ps ys s = decide (1 < dropS ps ys s) from rfl)
  go_enter Try.func101, Try.ntmps101
  go_wp2_with fail
  refine (hillDrop_any s _ h hn hy hs).mono ?_
  rintro e w1 ⟨rfl, hb1⟩
  generalize dropS ps ys s = x at *
  go_wp2
  go_ret
  exact ⟨ret_bool HF.out.symm, by (repeat (first | (with_reducible assumption) | (with_reducible exact Below.refl _ _) | ((with_reducible refine Below.alloc ?_ ?hsz _); (case hsz => (first | omega | (simp; done) | (simp; omega) | (simp at *; omega)))) | ((with_reducible refine Below.setCell ?_ ?hsz _); (case hsz => (first | omega | (simp; done) | (simp; omega) | (simp at *; omega)))) | (with_reducible refine Below.drew ?_) | (with_reducible refine below_drewN ?_ _) | ((with_reducible refine Below.trans ?_ (Below.mono (by with_reducible assumption) ?hsz)); (case hsz => (first | omega | (simp; done) | (simp; omega) | (simp at *; omega))))))⟩

set_option maxHeartbeats 1000000 in
set_option maxRecDepth 20000 in
theorem hillDownFn_any {B g : Nat} {n i j : Int} {ps : List Pp} {xs ys : List Int} (s bh : Nat) (w : World) (h : HillOk w B g n i j ps xs ys) (hn : netOkB n ps = true) (hy : hgtIn n ys) (hs : s < 2 * ps.length) (d0 : w.cell? ⟨bh, 0, none⟩ = some (.pointer (some ⟨g, 0, none⟩))) :
    Calls Try.prog 108 #[.int .i64 s, .pointer (some ⟨bh, 0, none⟩)] w fun e w' => e = .returned (.bool (downF ps ys s)) ∧ Below w.heap.size w w' := by
  have HF := Lib.hid (show downF ps ys s = (dropS ps ys s == 1) by rw [beq_dec]; rfl)
  go_enter Try.func108, Try.ntmps108
  go_wp2_with fail
  refine (hillDrop_any s _ h hn hy hs).mono ?_
  rintro e w1 ⟨rfl, hb1⟩
  generalize dropS ps ys s = x at *
  go_wp2
  go_ret
  exact ⟨ret_bool HF.out.symm, by (repeat (first | (with_reducible assumption) | (with_reducible exact Below.refl _ _) | ((with_reducible refine Below.alloc ?_ ?hsz _); (case hsz => (first | omega | (simp; done) | (simp; omega) | (simp at *; omega)))) | ((with_reducible refine Below.setCell ?_ ?hsz _); (case hsz => (first | omega | (simp; done) | (simp; omega) | (simp at *; omega)))) | (with_reducible refine Below.drew ?_) | (with_reducible refine below_drewN ?_ _) | ((with_reducible refine Below.trans ?_ (Below.mono (by with_reducible assumption) ?hsz)); (case hsz => (first | omega | (simp; done) | (simp; omega) | (simp at *; omega))))))⟩

set_option maxHeartbeats 1000000 in
set_option maxRecDepth 20000 in
theorem hillFromFn_any {B g : Nat} {n i j : Int} {ps : List Pp} {xs ys : List Int} (k : Int) (s bh bn : Nat) (w : World) (h : HillOk w B g n i j ps xs ys) (hn : netOkB n ps = true) (hs : s < 2 * ps.length) (d0 : w.cell? ⟨bh, 0, none⟩ = some (.pointer (some ⟨g, 0, none⟩))) (d1 : w.cell? ⟨bn, 0, none⟩ = some (.int .i64 k)) (hbn : bn < w.heap.size) :
    Calls Try.prog 132 #[.int .i64 s, .pointer (some ⟨bh, 0, none⟩), .pointer (some ⟨bn, 0, none⟩)] w fun e w' => e = .returned (.bool (!frF ps k s)) ∧ Below w.heap.size w w' := by
  obtain ⟨u, t, v, b, hH, hp, -⟩ := h
  obtain ⟨-, -, -, -, c3, -, -⟩ := id hH
  have hl7 := (netOk_parts hn).2.2.1
  have HF := Lib.hid (show (!frF ps k s) = (stFr ps s != k) by
    unfold frF
    by_cases hk : stFr ps s = k
    · simp [hk]
    · simp [hk])
  obtain ⟨A, c, rfl, -, -, -, -⟩ := hp.form
  go_enter Try.func132, Try.ntmps132
  go_wp2_with fail
  with_reducible refine (stepEnds_any s _ ps b _ hp hs hl7).mono ?_
  rintro ee w1 ⟨rfl, hb1⟩
  have d2 := (bel_cell hb1 hbn).trans d1
  clear d1
  generalize stFr ps s = x at *
  generalize stTo ps s = y at *
  go_wp2
  go_ret
  exact ⟨ret_bool HF.out.symm, by (repeat (first | (with_reducible assumption) | (with_reducible exact Below.refl _ _) | ((with_reducible refine Below.alloc ?_ ?hsz _); (case hsz => (first | omega | (simp; done) | (simp; omega) | (simp at *; omega)))) | ((with_reducible refine Below.setCell ?_ ?hsz _); (case hsz => (first | omega | (simp; done) | (simp; omega) | (simp at *; omega)))) | (with_reducible refine Below.drew ?_) | (with_reducible refine below_drewN ?_ _) | ((with_reducible refine Below.trans ?_ (Below.mono (by with_reducible assumption) ?hsz)); (case hsz => (first | omega | (simp; done) | (simp; omega) | (simp at *; omega))))))⟩

set_option maxHeartbeats 1000000 in
set_option maxRecDepth 20000 in
theorem containsSteep_any {del : Int → Bool} {bh : Nat} (u : Value) (xs : List Int) (b : Nat) (w : World) (hx : Ints w b u xs)
    (hcl : ∀ W, Below w.heap.size w W → ∀ x ∈ xs, Calls Try.prog 101 #[.int .i64 x, .pointer (some ⟨bh, 0, none⟩)] W fun e w' => e = .returned (.bool (del x)) ∧ Below W.heap.size W w') :
    Calls Try.prog 99 #[u, .func (Fn.func 101) #[] #[.pointer (some ⟨bh, 0, none⟩)]] w fun e w' => e = .returned (.bool (xs.any del)) ∧ Below w.heap.size w w' := by
  have hx0 := hx
  obtain ⟨A, ca, rfl, -, -, -, -⟩ := hx.form
  go_enter Try.func99, Try.ntmps99
  go_wp2_with fail
  refine (indexSteep_any (del := del) (bh := bh) _ xs b _ hx0 hcl).mono ?_
  rintro e w1 ⟨r, rfl, hr, hb1⟩
  rcases hr with ⟨rfl, hall⟩ | ⟨q, rfl, hq, hd, -⟩
  · have HR := Lib.hid (show xs.any del = false by rw [List.any_eq_false]; intro x hx; simp [hall x hx])
    clear hall
    go_wp2
    go_ret
    exact ⟨ret_bool (by rw [HR.out]), by (repeat (first | (with_reducible assumption) | (with_reducible exact Below.refl _ _) | ((with_reducible refine Below.alloc ?_ ?hsz _); (case hsz => (first | omega | (simp; done) | (simp; omega) | (simp at *; omega)))) | ((with_reducible refine Below.setCell ?_ ?hsz _); (case hsz => (first | omega | (simp; done) | (simp; omega) | (simp at *; omega)))) | (with_reducible refine Below.drew ?_) | (with_reducible refine below_drewN ?_ _) | ((with_reducible refine Below.trans ?_ (Below.mono (by with_reducible assumption) ?hsz)); (case hsz => (first | omega | (simp; done) | (simp; omega) | (simp at *; omega))))))⟩
  · have HR := Lib.hid (show xs.any del = true by
      rw [List.any_eq_true]
      refine ⟨xs[q], List.getElem_mem hq, ?_⟩
      rw [List.getD_eq_getElem?_getD, List.getElem?_eq_getElem hq] at hd
      exact hd)
    clear hd
    go_wp2
    go_ret
    exact ⟨ret_bool (by rw [HR.out]), by (repeat (first | (with_reducible assumption) | (with_reducible exact Below.refl _ _) | ((with_reducible refine Below.alloc ?_ ?hsz _); (case hsz => (first | omega | (simp; done) | (simp; omega) | (simp at *; omega)))) | ((with_reducible refine Below.setCell ?_ ?hsz _); (case hsz => (first | omega | (simp; done) | (simp; omega) | (simp at *; omega)))) | (with_reducible refine Below.drew ?_) | (with_reducible refine below_drewN ?_ _) | ((with_reducible refine Below.trans ?_ (Below.mono (by with_reducible assumption) ?hsz)); (case hsz => (first | omega | (simp; done) | (simp; omega) | (simp at *; omega))))))⟩

set_option maxHeartbeats 4000000 in
set_option maxRecDepth 20000 in
theorem hillSteep_any {B g : Nat} {n i j : Int} {ps : List Pp} {xs ys : List Int} (w : World) (h : HillOk w B g n i j ps xs ys) (hh : holdsB n ps xs = true) (hy : hgtIn n ys) :
    Calls Try.prog 64 #[.pointer (some ⟨g, 0, none⟩)] w fun e w' => e = .returned (.bool (steepB ps xs ys)) ∧ Below w.heap.size w w' := by
  have h0 := h
  obtain ⟨u, t, v, b, hH, hp, hx, -, -⟩ := h
  have hg := hH.lt
  obtain ⟨-, c0, -, -, c3, -, -⟩ := id hH
  have hn := holds_net hh
  have hl7 := (netOk_parts hn).2.2.1
  have HS := Lib.hid (show (openL ps xs).any (fun x => steepF ps ys x.toNat) = steepB ps xs ys from openL_any ps xs (steepF ps ys))
  obtain ⟨hf, hall, hlx⟩ := holds_parts hh
  have ha := (flowOk_parts hf).2.2
  have hr := net_rooms hn
  obtain ⟨A, c, rfl, -, -, -, -⟩ := hp.form
  obtain ⟨A1, c1, rfl, -, -, -, -⟩ := hx.form
  have HN := Lib.hid (And.intro hn (And.intro hlx (And.intro ha hr)))
  clear hn hlx ha hr hf hall hH
  obtain ⟨w0, hw0⟩ : ∃ W, W = w.alloc (.cells #[.pointer (some ⟨g, 0, none⟩)] 76) := ⟨_, rfl⟩
  have hb0 : Below w.heap.size w w0 := by rw [hw0]; (repeat (first | (with_reducible assumption) | (with_reducible exact Below.refl _ _) | ((with_reducible refine Below.alloc ?_ ?hsz _); (case hsz => (first | omega | (simp; done) | (simp; omega) | (simp at *; omega)))) | ((with_reducible refine Below.setCell ?_ ?hsz _); (case hsz => (first | omega | (simp; done) | (simp; omega) | (simp at *; omega)))) | (with_reducible refine Below.drew ?_) | (with_reducible refine below_drewN ?_ _) | ((with_reducible refine Below.trans ?_ (Below.mono (by with_reducible assumption) ?hsz)); (case hsz => (first | omega | (simp; done) | (simp; omega) | (simp at *; omega))))))
  have hz0 : w.heap.size < w0.heap.size := by rw [hw0]; simp
  have d0 : w0.cell? ⟨w.heap.size, 0, none⟩ = some (.pointer (some ⟨g, 0, none⟩)) := by rw [hw0]; go_simp
  have d1 := (bel_cell hb0 hg).trans c0
  have d3 := (bel_cell hb0 hg).trans c3
  go_enter Try.func64, Try.ntmps64
  go_wp2_with fail
  rw [← hw0]
  clear hw0 c0 c3
  go_region_held3 (fun w' => w'.cell? ⟨w.heap.size, 0, none⟩ = some (.pointer (some ⟨g, 0, none⟩)) ∧ w'.cell? ⟨g, 0, none⟩ = some (.slice A1 xs.length c1) ∧ w'.cell? ⟨g, 3, none⟩ = some (.slice A ps.length c))
    (first | exact ⟨q60, q61, q63⟩ | exact ⟨q50, q51, q53⟩ | exact ⟨cdrew12 d0, cdrew12 d1, cdrew12 d3⟩)
    (first
      | (go_at_call 100; (refine (openSteps_any _ _ ps xs b B _ (hp.keep (by (repeat (first | (with_reducible assumption) | (with_reducible exact Below.refl _ _) | ((with_reducible refine Below.alloc ?_ ?hsz _); (case hsz => (first | omega | (simp; done) | (simp; omega) | (simp at *; omega)))) | ((with_reducible refine Below.setCell ?_ ?hsz _); (case hsz => (first | omega | (simp; done) | (simp; omega) | (simp at *; omega)))) | (with_reducible refine Below.drew ?_) | (with_reducible refine below_drewN ?_ _) | ((with_reducible refine Below.trans ?_ (Below.mono (by with_reducible assumption) ?hsz)); (case hsz => (first | omega | (simp; done) | (simp; omega) | (simp at *; omega)))))))) (hx.keep (by (repeat (first | (with_reducible assumption) | (with_reducible exact Below.refl _ _) | ((with_reducible refine Below.alloc ?_ ?hsz _); (case hsz => (first | omega | (simp; done) | (simp; omega) | (simp at *; omega)))) | ((with_reducible refine Below.setCell ?_ ?hsz _); (case hsz => (first | omega | (simp; done) | (simp; omega) | (simp at *; omega)))) | (with_reducible refine Below.drew ?_) | (with_reducible refine below_drewN ?_ _) | ((with_reducible refine Below.trans ?_ (Below.mono (by with_reducible assumption) ?hsz)); (case hsz => (first | omega | (simp; done) | (simp; omega) | (simp at *; omega)))))))) hl7 HN.out.2.1 HN.out.2.2.1 HN.out.2.2.2).mono ?_); rintro e w5 ⟨r5, rfl, hr5, hb5⟩; have hz5 := hb5.size; have q50 := ckeep12 hb5 (by (first | omega | (simp; done) | (simp; omega) | (simp at *; omega))) (cdrew12 d0); have q51 := ckeep12 hb5 (by (first | omega | (simp; done) | (simp; omega) | (simp at *; omega))) (cdrew12 d1); have q53 := ckeep12 hb5 (by (first | omega | (simp; done) | (simp; omega) | (simp at *; omega))) (cdrew12 d3); obtain ⟨A5, c5, rfl, -, -, -, -⟩ := hr5.form)
      | (go_at_call 99; (refine (containsSteep_any (del := fun x => steepF ps ys x.toNat) (bh := w.heap.size) _ (openL ps xs) _ _ hr5 (fun W hW x hx => by
          obtain ⟨s, rfl, -, hs⟩ := openL_at hx
          exact hillSteepFn_any s w.heap.size _ (h0.keep (by (repeat (first | (with_reducible assumption) | (with_reducible exact Below.refl _ _) | ((with_reducible refine Below.alloc ?_ ?hsz _); (case hsz => (first | omega | (simp; done) | (simp; omega) | (simp at *; omega)))) | ((with_reducible refine Below.setCell ?_ ?hsz _); (case hsz => (first | omega | (simp; done) | (simp; omega) | (simp at *; omega)))) | (with_reducible refine Below.drew ?_) | (with_reducible refine below_drewN ?_ _) | ((with_reducible refine Below.trans ?_ (Below.mono (by with_reducible assumption) ?hsz)); (case hsz => (first | omega | (simp; done) | (simp; omega) | (simp at *; omega)))))))) HN.out.1 hy hs ((bel_cell hW (by (first | omega | (simp; done) | (simp; omega) | (simp at *; omega)))).trans q50))).mono ?_); rintro e w6 ⟨rfl, hb6⟩; have hz6 := hb6.size; have q60 := ckeep12 hb6 (by (first | omega | (simp; done) | (simp; omega) | (simp at *; omega))) q50; have q61 := ckeep12 hb6 (by (first | omega | (simp; done) | (simp; omega) | (simp at *; omega))) q51; have q63 := ckeep12 hb6 (by (first | omega | (simp; done) | (simp; omega) | (simp at *; omega))) q53))
  all_goals
    go_wp2
    go_ret
    exact ⟨ret_bool HS.out, by (repeat (first | (with_reducible assumption) | (with_reducible exact Below.refl _ _) | ((with_reducible refine Below.alloc ?_ ?hsz _); (case hsz => (first | omega | (simp; done) | (simp; omega) | (simp at *; omega)))) | ((with_reducible refine Below.setCell ?_ ?hsz _); (case hsz => (first | omega | (simp; done) | (simp; omega) | (simp at *; omega)))) | (with_reducible refine Below.drew ?_) | (with_reducible refine below_drewN ?_ _) | ((with_reducible refine Below.trans ?_ (Below.mono (by with_reducible assumption) ?hsz)); (case hsz => (first | omega | (simp; done) | (simp; omega) | (simp at *; omega))))))⟩

set_option maxHeartbeats 4000000 in
set_option maxRecDepth 20000 in
theorem hillFrom_any {B g : Nat} {n i j : Int} {ps : List Pp} {xs ys : List Int} (k : Int) (w : World) (h : HillOk w B g n i j ps xs ys) (hh : holdsB n ps xs = true) :
    Calls Try.prog 106 #[.pointer (some ⟨g, 0, none⟩), .int .i64 k] w fun e w' => ∃ r, e = .returned r ∧ Ints w' w.heap.size r ((frL ps xs k).map fun s : Nat => (s : Int)) ∧ Below w.heap.size w w' := by
  have h0 := h
  obtain ⟨u, t, v, b, hH, hp, hx, -, -⟩ := h
  have hg := hH.lt
  obtain ⟨-, c0, -, -, c3, -, -⟩ := id hH
  have hn := holds_net hh
  have hl7 := (netOk_parts hn).2.2.1
  have HS := Lib.hid (show ((openL ps xs).filter fun x => !(fun x : Int => !frF ps k x.toNat) x) = (frL ps xs k).map fun s : Nat => (s : Int) by
    have := openL_filter ps xs (frF ps k)
    simp only [Bool.not_not]
    exact this)
  obtain ⟨hf, hall, hlx⟩ := holds_parts hh
  have ha := (flowOk_parts hf).2.2
  have hr := net_rooms hn
  obtain ⟨A, c, rfl, -, -, -, -⟩ := hp.form
  obtain ⟨A1, c1, rfl, -, -, -, -⟩ := hx.form
  have HN := Lib.hid (And.intro hn (And.intro hlx (And.intro ha hr)))
  clear hn hlx ha hr hf hall hH
  obtain ⟨w0, hw0⟩ : ∃ W, W = (w.alloc (.cells #[.pointer (some ⟨g, 0, none⟩)] 76)).alloc (.cells #[.int .i64 k] 3) := ⟨_, rfl⟩
  have hb0 : Below w.heap.size w w0 := by rw [hw0]; (repeat (first | (with_reducible assumption) | (with_reducible exact Below.refl _ _) | ((with_reducible refine Below.alloc ?_ ?hsz _); (case hsz => (first | omega | (simp; done) | (simp; omega) | (simp at *; omega)))) | ((with_reducible refine Below.setCell ?_ ?hsz _); (case hsz => (first | omega | (simp; done) | (simp; omega) | (simp at *; omega)))) | (with_reducible refine Below.drew ?_) | (with_reducible refine below_drewN ?_ _) | ((with_reducible refine Below.trans ?_ (Below.mono (by with_reducible assumption) ?hsz)); (case hsz => (first | omega | (simp; done) | (simp; omega) | (simp at *; omega))))))
  have hz0 : w.heap.size + 1 < w0.heap.size := by rw [hw0]; simp
  have d0 : w0.cell? ⟨w.heap.size, 0, none⟩ = some (.pointer (some ⟨g, 0, none⟩)) := by rw [hw0]; go_simp
  have d2 : w0.cell? ⟨w.heap.size + 1, 0, none⟩ = some (.int .i64 k) := by rw [hw0]; go_simp
  have d1 := (bel_cell hb0 hg).trans c0
  have d3 := (bel_cell hb0 hg).trans c3
  go_enter Try.func106, Try.ntmps106
  go_wp2_with fail
  rw [← hw0]
  clear hw0 c0 c3
  go_region_held3 (fun w' => w'.cell? ⟨w.heap.size, 0, none⟩ = some (.pointer (some ⟨g, 0, none⟩)) ∧ w'.cell? ⟨g, 0, none⟩ = some (.slice A1 xs.length c1) ∧ w'.cell? ⟨g, 3, none⟩ = some (.slice A ps.length c))
    (first | exact ⟨q60, q61, q63⟩ | exact ⟨q50, q51, q53⟩ | exact ⟨cdrew12 d0, cdrew12 d1, cdrew12 d3⟩)
    (first
      | (go_at_call 100; (refine (openSteps_any _ _ ps xs b B _ (hp.keep (by (repeat (first | (with_reducible assumption) | (with_reducible exact Below.refl _ _) | ((with_reducible refine Below.alloc ?_ ?hsz _); (case hsz => (first | omega | (simp; done) | (simp; omega) | (simp at *; omega)))) | ((with_reducible refine Below.setCell ?_ ?hsz _); (case hsz => (first | omega | (simp; done) | (simp; omega) | (simp at *; omega)))) | (with_reducible refine Below.drew ?_) | (with_reducible refine below_drewN ?_ _) | ((with_reducible refine Below.trans ?_ (Below.mono (by with_reducible assumption) ?hsz)); (case hsz => (first | omega | (simp; done) | (simp; omega) | (simp at *; omega)))))))) (hx.keep (by (repeat (first | (with_reducible assumption) | (with_reducible exact Below.refl _ _) | ((with_reducible refine Below.alloc ?_ ?hsz _); (case hsz => (first | omega | (simp; done) | (simp; omega) | (simp at *; omega)))) | ((with_reducible refine Below.setCell ?_ ?hsz _); (case hsz => (first | omega | (simp; done) | (simp; omega) | (simp at *; omega)))) | (with_reducible refine Below.drew ?_) | (with_reducible refine below_drewN ?_ _) | ((with_reducible refine Below.trans ?_ (Below.mono (by with_reducible assumption) ?hsz)); (case hsz => (first | omega | (simp; done) | (simp; omega) | (simp at *; omega)))))))) hl7 HN.out.2.1 HN.out.2.2.1 HN.out.2.2.2).mono ?_); rintro e w5 ⟨r5, rfl, hr5, hb5⟩; have hz5 := hb5.size; have q50 := ckeep12 hb5 (by (first | omega | (simp; done) | (simp; omega) | (simp at *; omega))) (cdrew12 d0); have q52 := ckeep12 hb5 (by (first | omega | (simp; done) | (simp; omega) | (simp at *; omega))) (cdrew12 d2); have q51 := ckeep12 hb5 (by (first | omega | (simp; done) | (simp; omega) | (simp at *; omega))) (cdrew12 d1); have q53 := ckeep12 hb5 (by (first | omega | (simp; done) | (simp; omega) | (simp at *; omega))) (cdrew12 d3); obtain ⟨A5, c5, rfl, -, -, -, -⟩ := hr5.form)
      | (go_at_call 131; (refine (deleteFrom_any (del := fun x => !frF ps k x.toNat) (bh := w.heap.size) (bn := w.heap.size + 1) _ (openL ps xs) _ _ hb5.size hr5 (fun W hW x hx => by
          obtain ⟨s, rfl, -, hs⟩ := openL_at hx
          have hw5 : Below w.heap.size w w5 := by (repeat (first | (with_reducible assumption) | (with_reducible exact Below.refl _ _) | ((with_reducible refine Below.alloc ?_ ?hsz _); (case hsz => (first | omega | (simp; done) | (simp; omega) | (simp at *; omega)))) | ((with_reducible refine Below.setCell ?_ ?hsz _); (case hsz => (first | omega | (simp; done) | (simp; omega) | (simp at *; omega)))) | (with_reducible refine Below.drew ?_) | (with_reducible refine below_drewN ?_ _) | ((with_reducible refine Below.trans ?_ (Below.mono (by with_reducible assumption) ?hsz)); (case hsz => (first | omega | (simp; done) | (simp; omega) | (simp at *; omega))))))
          exact hillFromFn_any k s w.heap.size (w.heap.size + 1) _ (h0.keep (hw5.trans (hW.mono (by (first | omega | (simp; done) | (simp; omega) | (simp at *; omega)))))) HN.out.1 hs ((hW.cell (p := ⟨w.heap.size, 0, none⟩) (by (first | omega | (simp; done) | (simp; omega) | (simp at *; omega)))).trans q50) ((hW.cell (p := ⟨w.heap.size + 1, 0, none⟩) (by (first | omega | (simp; done) | (simp; omega) | (simp at *; omega)))).trans q52) (by have := hW.size; (first | omega | (simp; done) | (simp; omega) | (simp at *; omega))))).mono ?_); rintro e w6 ⟨r6, rfl, hr6, hb6⟩; have hz6 := hb6.size; have q60 := (hb6.cell (p := ⟨w.heap.size, 0, none⟩) (by (first | omega | (simp; done) | (simp; omega) | (simp at *; omega)))).trans q50; have q61 := (hb6.cell (p := ⟨g, 0, none⟩) (by (first | omega | (simp; done) | (simp; omega) | (simp at *; omega)))).trans q51; have q63 := (hb6.cell (p := ⟨g, 3, none⟩) (by (first | omega | (simp; done) | (simp; omega) | (simp at *; omega)))).trans q53; have hr7 : Ints w6 w0.drew.heap.size r6 ((frL ps xs k).map fun s : Nat => (s : Int)) := (by rw [← HS.out]; exact hr6); clear hr6; obtain ⟨A6, c6, hv6, -, -, -, -⟩ := hr7.form; subst hv6; obtain ⟨m6, hm6⟩ : ∃ m, ((frL ps xs k).map fun s : Nat => (s : Int)).length = m := ⟨_, rfl⟩; rw [hm6] at hr7 ⊢; clear hm6))
  all_goals
    go_wp2
    go_ret
    refine ⟨_, rfl, ?_, ?_⟩
    · exact hr7.mono (b' := w.heap.size) (by (first | omega | (simp; done) | (simp; omega) | (simp at *; omega)))
    · exact (show Below w.heap.size w w5 by (repeat (first | (with_reducible assumption) | (with_reducible exact Below.refl _ _) | ((with_reducible refine Below.alloc ?_ ?hsz _); (case hsz => (first | omega | (simp; done) | (simp; omega) | (simp at *; omega)))) | ((with_reducible refine Below.setCell ?_ ?hsz _); (case hsz => (first | omega | (simp; done) | (simp; omega) | (simp at *; omega)))) | (with_reducible refine Below.drew ?_) | (with_reducible refine below_drewN ?_ _) | ((with_reducible refine Below.trans ?_ (Below.mono (by with_reducible assumption) ?hsz)); (case hsz => (first | omega | (simp; done) | (simp; omega) | (simp at *; omega))))))).trans (hb6.mono (by (first | omega | (simp; done) | (simp; omega) | (simp at *; omega))))

theorem hgt_of {n i j : Int} {ys : List Int} (h : hgtB n i j ys = true) : hgtIn n ys := ⟨(hgt_iff.1 h).1, (hgt_iff.1 h).2.1⟩
theorem bas_no1 {n i j : Int} {ps : List Pp} {xs ys : List Int} (h : greatB n ps i j = false) : basB n ps i j xs ys = false := by simp [basB, h]
theorem bas_no2 {n i j : Int} {ps : List Pp} {xs ys : List Int} (h : holdsB n ps xs = false) : basB n ps i j xs ys = false := by simp [basB, h]
theorem bas_is {n i j : Int} {ps : List Pp} {xs ys : List Int} (h1 : greatB n ps i j = true) (h2 : holdsB n ps xs = true) : basB n ps i j xs ys = (!lackB n i ps xs && hgtB n i j ys && !steepB ps xs ys) := by simp [basB, h1, h2]

set_option maxHeartbeats 4000000 in
set_option maxRecDepth 20000 in
theorem basinOk_any (n i j : Int) (v u t : Value) (ps : List Pp) (xs ys : List Int) (b b1 b2 : Nat) (w : World) (hp : Pipes w b v ps) (hx : Ints w b1 u xs) (ht : Ints w b2 t ys) (ly : ys.length ≤ 1048576) :
    Calls Try.prog 20 #[.agg #[.int .i64 n, v], .int .i64 i, .int .i64 j, .agg #[u, t]] w fun e w' => e = .returned (.bool (basB n ps i j xs ys)) ∧ Below w.heap.size w w' := by
  have hp0 := hp
  have hx0 := hx
  have ht0 := ht
  obtain ⟨A, c, rfl, -, -, -, -⟩ := hp.form
  obtain ⟨A1, c1, rfl, -, -, -, -⟩ := hx.form
  obtain ⟨A2, c2, rfl, -, -, -, -⟩ := ht.form
  obtain ⟨w0, hw0⟩ : ∃ W, W = (w.alloc (.cells #[.int .i64 n, .slice A ps.length c] 33)).alloc (.cells #[.slice A1 xs.length c1, .slice A2 ys.length c2] 35) := ⟨_, rfl⟩
  have hB0 : Below w.heap.size w w0 := by rw [hw0]; (repeat (first | (with_reducible assumption) | (with_reducible exact Below.refl _ _) | ((with_reducible refine Below.alloc ?_ ?hsz _); (case hsz => (first | omega | (simp; done) | (simp; omega) | (simp at *; omega)))) | ((with_reducible refine Below.setCell ?_ ?hsz _); (case hsz => (first | omega | (simp; done) | (simp; omega) | (simp at *; omega)))) | (with_reducible refine Below.drew ?_) | (with_reducible refine below_drewN ?_ _) | ((with_reducible refine Below.trans ?_ (Below.mono (by with_reducible assumption) ?hsz)); (case hsz => (first | omega | (simp; done) | (simp; omega) | (simp at *; omega))))))
  have hz0 : w.heap.size + 2 ≤ w0.heap.size := by rw [hw0]; simp
  have s0 : w.heap.size < w0.heap.size := by omega
  have s1 : w.heap.size + 1 < w0.heap.size := by omega
  have d0 : w0.cell? ⟨w.heap.size, 0, none⟩ = some (.int .i64 n) := by rw [hw0]; go_simp
  have d1 : w0.cell? ⟨w.heap.size, 1, none⟩ = some (.slice A ps.length c) := by rw [hw0]; go_simp
  have d2 : w0.cell? ⟨w.heap.size + 1, 0, none⟩ = some (.slice A1 xs.length c1) := by rw [hw0]; go_simp
  have d3 : w0.cell? ⟨w.heap.size + 1, 1, none⟩ = some (.slice A2 ys.length c2) := by rw [hw0]; go_simp
  go_enter Try.func20, Try.ntmps20
  go_wp2_with fail
  rw [← hw0]
  clear hw0
  refine (freeEndsOk_any n i j _ ps b _ (hp0.keep hB0)).mono ?_
  rintro e w1 ⟨rfl, hb1⟩
  have hB1 := hB0.trans (hb1.mono (by omega))
  have hz1 := hb1.size
  have e0 := (bel_cell hb1 s0).trans d0
  have e1 := (bel_cell hb1 s0).trans d1
  have e2 := (bel_cell hb1 s1).trans d2
  have e3 := (bel_cell hb1 s1).trans d3
  have p0 : w.heap.size < w1.heap.size := by omega
  have p1 : w.heap.size + 1 < w1.heap.size := by omega
  clear d0 d1 d2 d3 s0 s1
  by_cases hg : greatB n ps i j = true
  · rw [hg]
    have HG := Lib.hid hg
    clear hg
    go_wp2_with fail
    refine (holdsOk_any n _ _ ps xs b b1 _ (hp0.keep hB1) (hx0.keep hB1)).mono ?_
    rintro e w2 ⟨rfl, hb2⟩
    have hB2 := hB1.trans (hb2.mono (by omega))
    have hz2 := hb2.size
    have d0 := (bel_cell hb2 p0).trans e0
    have d1 := (bel_cell hb2 p0).trans e1
    have d2 := (bel_cell hb2 p1).trans e2
    have d3 := (bel_cell hb2 p1).trans e3
    clear e0 e1 e2 e3 p0 p1 hb2
    by_cases hh : holdsB n ps xs = true
    · rw [hh]
      have HB := Lib.hid (bas_is (ys := ys) HG.out hh)
      have HH := Lib.hid hh
      have lx : xs.length ≤ 1048576 := by
        have := (holds_parts hh).2.2
        have := (netOk_parts (holds_net hh)).2.2.1
        omega
      clear hh
      go_wp2_with fail
      refine (hillOf_any n i j _ _ _ ps xs ys b b1 b2 _ (hp0.keep hB2) (hx0.keep hB2) (ht0.keep hB2) lx ly).mono ?_
      rintro e w3 ⟨g, r1, r2, rfl, hg3, hH, hr1, hr2, hap, hb3⟩
      have hB3 := hB2.trans (hb3.mono (by omega))
      have hz3 := hb3.size
      have hO : HillOk w3 w2.heap.size g n i j ps xs ys := ⟨r1, r2, _, b, hH, hp0.keep hB3, hr1, hr2, hap⟩
      clear hH hr1 hr2 hap d0 d1 d2 d3 hb3
      go_wp2_with fail
      refine (hillLacks_any _ hO HH.out).mono ?_
      rintro e w4 ⟨rfl, hb4⟩
      have hO4 := hO.keep hb4
      have hB4 := hB3.trans (hb4.mono (by omega))
      have hz4 := hb4.size
      clear hO hb4
      cases hla : lackB n i ps xs
      · go_wp2_with fail
        refine (hillHeights_any _ hO4 HG.out).mono ?_
        rintro e w5 ⟨rfl, hb5⟩
        have hO5 := hO4.keep hb5
        have hB5 := hB4.trans (hb5.mono (by omega))
        have hz5 := hb5.size
        clear hO4 hb5
        cases hgh : hgtB n i j ys
        · have HR := Lib.hid (show basB n ps i j xs ys = false by rw [HB.out, hgh]; simp)
          clear hgh hla
          go_wp2
          go_ret
          exact ⟨ret_bool HR.out.symm, by (repeat (first | (with_reducible assumption) | (with_reducible exact Below.refl _ _) | ((with_reducible refine Below.alloc ?_ ?hsz _); (case hsz => (first | omega | (simp; done) | (simp; omega) | (simp at *; omega)))) | ((with_reducible refine Below.setCell ?_ ?hsz _); (case hsz => (first | omega | (simp; done) | (simp; omega) | (simp at *; omega)))) | (with_reducible refine Below.drew ?_) | (with_reducible refine below_drewN ?_ _) | ((with_reducible refine Below.trans ?_ (Below.mono (by with_reducible assumption) ?hsz)); (case hsz => (first | omega | (simp; done) | (simp; omega) | (simp at *; omega))))))⟩
        · have HR := Lib.hid (show basB n ps i j xs ys = !steepB ps xs ys by rw [HB.out, hla, hgh]; simp)
          have hy := hgt_of hgh
          clear hgh hla
          go_wp2_with fail
          refine (hillSteep_any _ hO5 HH.out hy).mono ?_
          rintro e w6 ⟨rfl, hb6⟩
          have hz6 := hb6.size
          go_wp2
          go_ret
          exact ⟨ret_bool HR.out.symm, by (repeat (first | (with_reducible assumption) | (with_reducible exact Below.refl _ _) | ((with_reducible refine Below.alloc ?_ ?hsz _); (case hsz => (first | omega | (simp; done) | (simp; omega) | (simp at *; omega)))) | ((with_reducible refine Below.setCell ?_ ?hsz _); (case hsz => (first | omega | (simp; done) | (simp; omega) | (simp at *; omega)))) | (with_reducible refine Below.drew ?_) | (with_reducible refine below_drewN ?_ _) | ((with_reducible refine Below.trans ?_ (Below.mono (by with_reducible assumption) ?hsz)); (case hsz => (first | omega | (simp; done) | (simp; omega) | (simp at *; omega))))))⟩
      · have HR := Lib.hid (show basB n ps i j xs ys = false by rw [HB.out, hla]; simp)
        clear hla
        go_wp2
        go_ret
        exact ⟨ret_bool HR.out.symm, by (repeat (first | (with_reducible assumption) | (with_reducible exact Below.refl _ _) | ((with_reducible refine Below.alloc ?_ ?hsz _); (case hsz => (first | omega | (simp; done) | (simp; omega) | (simp at *; omega)))) | ((with_reducible refine Below.setCell ?_ ?hsz _); (case hsz => (first | omega | (simp; done) | (simp; omega) | (simp at *; omega)))) | (with_reducible refine Below.drew ?_) | (with_reducible refine below_drewN ?_ _) | ((with_reducible refine Below.trans ?_ (Below.mono (by with_reducible assumption) ?hsz)); (case hsz => (first | omega | (simp; done) | (simp; omega) | (simp at *; omega))))))⟩
    · have hh' : holdsB n ps xs = false := by simpa using hh
      rw [hh']
      have HR := Lib.hid (bas_no2 (i := i) (j := j) (ys := ys) hh')
      clear hh hh'
      go_wp2
      go_ret
      exact ⟨ret_bool HR.out.symm, by (repeat (first | (with_reducible assumption) | (with_reducible exact Below.refl _ _) | ((with_reducible refine Below.alloc ?_ ?hsz _); (case hsz => (first | omega | (simp; done) | (simp; omega) | (simp at *; omega)))) | ((with_reducible refine Below.setCell ?_ ?hsz _); (case hsz => (first | omega | (simp; done) | (simp; omega) | (simp at *; omega)))) | (with_reducible refine Below.drew ?_) | (with_reducible refine below_drewN ?_ _) | ((with_reducible refine Below.trans ?_ (Below.mono (by with_reducible assumption) ?hsz)); (case hsz => (first | omega | (simp; done) | (simp; omega) | (simp at *; omega))))))⟩
  · have hg' : greatB n ps i j = false := by simpa using hg
    rw [hg']
    have HR := Lib.hid (bas_no1 (xs := xs) (ys := ys) hg')
    clear hg hg'
    go_wp2
    go_ret
    exact ⟨ret_bool HR.out.symm, by (repeat (first | (with_reducible assumption) | (with_reducible exact Below.refl _ _) | ((with_reducible refine Below.alloc ?_ ?hsz _); (case hsz => (first | omega | (simp; done) | (simp; omega) | (simp at *; omega)))) | ((with_reducible refine Below.setCell ?_ ?hsz _); (case hsz => (first | omega | (simp; done) | (simp; omega) | (simp at *; omega)))) | (with_reducible refine Below.drew ?_) | (with_reducible refine below_drewN ?_ _) | ((with_reducible refine Below.trans ?_ (Below.mono (by with_reducible assumption) ?hsz)); (case hsz => (first | omega | (simp; done) | (simp; omega) | (simp at *; omega))))))⟩

end Go.Proofs.Ytabkhpeoeihmmaa
