/- Plain facts. -/
import Derived.Test.YtobbeofibkpbaaaGZ39
import Derived.Lib.AppendZerosOnto
import Derived.Test.YtobbeofibkpbaaaGZ24
import Derived.Test.YtobbeofibkpbaaaGZ10
import Derived.Test.YtobbeofibkpbaaaGZ8
/- slices.Concat and slices.Grow of rows of pipes. -/
namespace Go.Proofs.Ytobbeofibkpbaaa
open Go.RowKit

/-- rows that are put together: where their headers lie, and their cells -/
def SrcsOk (w : World) (size g m : Nat) (ns : List Nat) (css : List (List Value)) : Prop :=
  ns.length = m ∧ css.length = m ∧ g < w.heap.size ∧ ∀ k, k < m → ∃ v, w.cell? ⟨g, k, none⟩ = some v ∧ ∀ W, Below w.heap.size w W → SrcOk W size v (ns.getD k 0) (css.getD k [])
theorem sum_take_le (ns : List Nat) (k : Nat) : (ns.take k).sum ≤ ns.sum := by
  have h := congrArg List.sum (List.take_append_drop k ns)
  rw [List.sum_append] at h
  omega
theorem sum_take_succ (ns : List Nat) (k : Nat) (h : k < ns.length) : (ns.take (k + 1)).sum = (ns.take k).sum + ns.getD k 0 := by
  rw [List.take_succ_eq_append_getElem h, List.sum_append, List.getD_eq_getElem?_getD, List.getElem?_eq_getElem h]
  simp
theorem flat_take_succ (css : List (List Value)) (k : Nat) (h : k < css.length) : (css.take (k + 1)).flatten = (css.take k).flatten ++ css.getD k [] := by
  rw [List.take_succ_eq_append_getElem h, List.flatten_append, List.getD_eq_getElem?_getD, List.getElem?_eq_getElem h]
  simp

set_option maxHeartbeats 2000000 in
set_option maxRecDepth 20000 in
theorem growPipe_any (n : Nat) (w : World) (hn : n ≤ 100000) :
    Calls Try.prog 170 #[.slice none 0 0, .int .i64 n] w fun e w' => ∃ r, e = .returned r ∧ w'.ownsRow w.heap.size 45 5 r 0 [] ∧ Below w.heap.size w w' := by
  obtain ⟨i0, hi0, hz0, hz1, hz2⟩ := info_parts pipe_info
  by_cases h0 : n = 0
  · subst h0
    go_enter Try.func170, Try.ntmps170
    go_wp2
    go_ret
    exact ⟨_, rfl, World.ownsRow_nil _ _ _ _, by (repeat (first | (with_reducible assumption) | (with_reducible exact Below.refl _ _) | ((with_reducible refine Below.alloc ?_ ?hsz _); (case hsz => (first | omega | (simp; done) | (simp; omega) | (simp at *; omega)))) | ((with_reducible refine Below.setCell ?_ ?hsz _); (case hsz => (first | omega | (simp; done) | (simp; omega) | (simp at *; omega)))) | (with_reducible refine Below.drew ?_) | (with_reducible refine below_drewN ?_ _) | ((with_reducible refine Below.trans ?_ (Below.mono (by with_reducible assumption) ?hsz)); (case hsz => (first | omega | (simp; done) | (simp; omega) | (simp at *; omega))))))⟩
  · have hold : (Builtin.firstCells i0.size 0 (.slice none 0 0)).run Try.prog w.drew = .ok #[] w.drew := run_firstCells_none w.drew i0.size 0 0 0
    have hrz := fun ty => Lib.run_append_grow_zeros w 23 3 ty 45 i0 _ .i64 .i64 Try.underlying23 Try.underlying3 hi0 hz0 none 0 0 [] hold n (by omega) (by omega) (by omega) (by omega) (by rw [hz2]; omega) (growslice_fits (by omega) (by rw [hz2]; omega))
    rw [Nat.zero_add] at hrz
    have hge := grownCap_ge w n 0 45
    have hle := grownCap_le_maxLen w n 0 45 (by unfold maxLen; omega)
    generalize grownCap w n 0 45 = G at *
    have hsz : (w.drew.alloc (.cells (#[] ++ Builtin.zeroCells (Value.cells (i0.zero.getD undef)) n ++ Builtin.zeroCells (Value.cells (i0.zero.getD undef)) (G - n)) 45)).heap.size = w.heap.size + 1 := by simp
    have hown : ∀ cs : Array Value, cs.size = G * 5 → (w.drew.alloc (.cells cs 45)).ownsRow w.heap.size 45 5 (.slice (some ⟨w.heap.size, 0, none⟩) 0 G) 0 [] := fun cs hcs =>
      ⟨by simp, .inr ⟨w.heap.size, G, cs, rfl, Nat.le_refl _, heap_alloc_new w.drew _, Nat.zero_le _, hle, hcs, by simp⟩⟩
    have hGs : G ≤ 9223372036854775807 := by unfold maxLen at hle; omega
    clear hsz
    generalize hcs : (#[] ++ Builtin.zeroCells _ n ++ Builtin.zeroCells _ (G - n) : Array Value) = cs at hrz
    have hcz : cs.size = G * 5 := by
      rw [← hcs]
      simp [size_zeroCells, Value.cells]
      omega
    have hfin := hown cs hcz
    clear hown hcs hle hold
    go_enter Try.func170, Try.ntmps170
    go_wp2_with (at_builtin; refine Lib.wpList_append_run _ rfl _ _ _ _ rfl _ _ rfl rfl _ _ (hrz _) ?_)
    go_ret
    exact ⟨_, rfl, hfin, by (repeat (first | (with_reducible assumption) | (with_reducible exact Below.refl _ _) | ((with_reducible refine Below.alloc ?_ ?hsz _); (case hsz => (first | omega | (simp; done) | (simp; omega) | (simp at *; omega)))) | ((with_reducible refine Below.setCell ?_ ?hsz _); (case hsz => (first | omega | (simp; done) | (simp; omega) | (simp at *; omega)))) | (with_reducible refine Below.drew ?_) | (with_reducible refine below_drewN ?_ _) | ((with_reducible refine Below.trans ?_ (Below.mono (by with_reducible assumption) ?hsz)); (case hsz => (first | omega | (simp; done) | (simp; omega) | (simp at *; omega))))))⟩

set_option maxHeartbeats 4000000 in
set_option maxRecDepth 20000 in
theorem concatPipe_any (g m : Nat) (ns : List Nat) (css : List (List Value)) (w : World) (h : SrcsOk w 5 g m ns css) (hm : m ≤ 3) (hs : ns.sum ≤ 1000) :
    Calls Try.prog 145 #[.slice (some ⟨g, 0, none⟩) m m] w fun e w' => ∃ r, e = .returned r ∧ w'.ownsRow w.heap.size 45 5 r ns.sum css.flatten ∧ Below w.heap.size w w' := by
  obtain ⟨hn, hc, hg, hk⟩ := h
  have HK := Lib.hid hk
  clear hk
  obtain ⟨i0, hi0, hz0, hz1, hz2⟩ := info_parts pipe_info
  have HN := Lib.hid hn
  have HC := Lib.hid hc
  clear hn hc
  have HS := Lib.hid hs
  have HT := Lib.hid (fun k => sum_take_le ns k)
  go_enter Try.func145, Try.ntmps145
  go_wp2_with fail
  go_loopw [11, 3] (fun i t wr => ∃ k : Nat, k ≤ m ∧ i = .int .i64 k ∧ t = .int .i64 ((ns.take k).sum : Nat) ∧ w = wr) (fun i _ _ => m - (intOf i).toNat)
  case atStart => exact ⟨0, by omega, rfl, rfl, rfl⟩
  case round =>
    obtain ⟨k, hkm, rfl, rfl, rfl⟩ := hrel
    have hk1 := HT.out k
    have hs1 := HS.out
    by_cases hlt : k < m
    · obtain ⟨vk, c0, hsr⟩ := HK.out k hlt
      have h1 := HT.out (k + 1)
      have h2 := sum_take_succ ns k (by rw [HN.out]; exact hlt)
      have h9 := hsr w (Below.refl _ _)
      generalize ns.getD k 0 = nk at *
      generalize (ns.take k).sum = s at *
      have H2 := Lib.hid h2
      rw [h2] at h1
      clear h2 hsr
      rcases h9 with ⟨rfl, rfl, -⟩ | ⟨ad, c, rfl, -, -, -⟩
      · go_wp2_with fail
        go_roundw
        case rel => exact ⟨k + 1, by omega, by go_num, by rw [H2.out]; go_num, by first | rfl | trivial⟩
        case measure => simp [intOf]; omega
      · go_wp2_with fail
        go_roundw
        case rel => exact ⟨k + 1, by omega, by go_num, by rw [H2.out]; go_num, by first | rfl | trivial⟩
        case measure => simp [intOf]; omega
    · have hk2 : k = m := by omega
      subst hk2
      have e1 : (ns.take k).sum = ns.sum := by rw [List.take_of_length_le (by rw [HN.out]; exact Nat.le_refl _)]
      rw [e1] at hk1 ⊢
      have HE := Lib.hid e1
      clear e1 hlt hkm
      generalize hS : ns.sum = S at *
      go_wp2_with fail
      refine (growPipe_any S _ (by omega)).mono ?_
      rintro e w1 ⟨r, rfl, hr, hb1⟩
      go_wp2_with fail
      go_loopw [27, 6] (fun i t wr => ∃ j : Nat, j ≤ k ∧ i = .int .i64 j ∧ wr.ownsRow w.heap.size 45 5 t (ns.take j).sum (css.take j).flatten ∧ Below w.heap.size w wr) (fun i _ _ => k - (intOf i).toNat)
      case atStart => exact ⟨0, by omega, rfl, hr, hb1⟩
      case round =>
        clear hr hb1
        obtain ⟨j, hjk, rfl, hown, hb⟩ := hrel
        have hj1 := HT.out j
        have hzb := hb.size
        by_cases hlt : j < k
        · obtain ⟨vk, c0, hsr⟩ := HK.out j hlt
          have c1 := (hb.cell (p := ⟨g, j, none⟩) hg).trans c0
          have h1 := HT.out (j + 1)
          have h2 := sum_take_succ ns j (by rw [HN.out]; exact hlt)
          have h3 := flat_take_succ css j (by rw [HC.out]; exact hlt)
          have h9 := hsr wr hb
          have hgr : g < wr.heap.size := by omega
          generalize ns.getD j 0 = nk at *
          generalize css.getD j [] = ck at *
          rw [h2] at h1
          have H2 := Lib.hid (And.intro h2 h3)
          clear h2 h3 hsr c0
          go_wp2_with (first
            | (at_builtin
               go_must (refine wpList_append_src rfl _ _ 23 rfl w.heap.size 45 i0 _ 5 40 Try.underlying23 hi0 hz0 hz1 hz2 rfl (by omega) _ _ (ns.take j).sum nk _ ck rfl rfl hown h9 (by unfold maxLen; omega) (by omega) hzb ?_)
               intro r2 w7 hown7 hgr7 hat7))
          have hb7 : Below w.heap.size w w7 := Below.grown hb hgr7 hzb (fun q hq => (hown.lt q hq).1)
          rw [← H2.out.1, ← H2.out.2] at hown7
          clear hown h9 hgr7 hat7 hb
          go_roundw
          case rel => exact ⟨j + 1, by omega, by go_num, hown7, hb7⟩
          case measure => simp [intOf]; omega
        · have hj2 : j = k := by omega
          subst hj2
          have e2 : (css.take j).flatten = css.flatten := by rw [List.take_of_length_le (by rw [HC.out]; exact Nat.le_refl _)]
          rw [HE.out, e2, ← hS] at hown
          go_wp2_with fail
          go_ret
          exact ⟨_, rfl, hown, hb⟩

end Go.Proofs.Ytobbeofibkpbaaa

/- Contracts of the functions of chapter 8 in the program: movedNode, movedPipes, a pipe's net. -/
namespace Go.Proofs.Ytobbeofibkpbaaa
open Go.RowKit

set_option maxHeartbeats 1000000 in
set_option maxRecDepth 20000 in
theorem movedNode_any (x b e r : Int) (w : World) (x0 : -1000 ≤ x) (x1 : x ≤ 1000) (r0 : -1000 ≤ r) (r1 : r ≤ 1000) :
    Calls Try.prog 171 #[.int .i64 x, .int .i64 b, .int .i64 e, .int .i64 r] w fun e' w' => e' = .returned (.int .i64 (movedN b e r x)) ∧ Below w.heap.size w w' := by
  by_cases h0 : x = 0
  · subst h0
    have HR := Lib.hid (show movedN b e r 0 = b from rfl)
    go_enter Try.func171, Try.ntmps171
    go_wp2
    go_ret
    exact ⟨ret_int HR.out.symm, by (repeat (first | (with_reducible assumption) | (with_reducible exact Below.refl _ _) | ((with_reducible refine Below.alloc ?_ ?hsz _); (case hsz => (first | omega | (simp; done) | (simp; omega) | (simp at *; omega)))) | ((with_reducible refine Below.setCell ?_ ?hsz _); (case hsz => (first | omega | (simp; done) | (simp; omega) | (simp at *; omega)))) | (with_reducible refine Below.drew ?_) | (with_reducible refine below_drewN ?_ _) | ((with_reducible refine Below.trans ?_ (Below.mono (by with_reducible assumption) ?hsz)); (case hsz => (first | omega | (simp; done) | (simp; omega) | (simp at *; omega))))))⟩
  · have b0 : (x == 0) = false := by simpa using h0
    by_cases h1 : x = 1
    · subst h1
      have HR := Lib.hid (show movedN b e r 1 = e from rfl)
      clear h0 b0
      go_enter Try.func171, Try.ntmps171
      go_wp2
      go_ret
      exact ⟨ret_int HR.out.symm, by (repeat (first | (with_reducible assumption) | (with_reducible exact Below.refl _ _) | ((with_reducible refine Below.alloc ?_ ?hsz _); (case hsz => (first | omega | (simp; done) | (simp; omega) | (simp at *; omega)))) | ((with_reducible refine Below.setCell ?_ ?hsz _); (case hsz => (first | omega | (simp; done) | (simp; omega) | (simp at *; omega)))) | (with_reducible refine Below.drew ?_) | (with_reducible refine below_drewN ?_ _) | ((with_reducible refine Below.trans ?_ (Below.mono (by with_reducible assumption) ?hsz)); (case hsz => (first | omega | (simp; done) | (simp; omega) | (simp at *; omega))))))⟩
    · have b1 : (x == 1) = false := by simpa using h1
      have HR := Lib.hid (show movedN b e r x = x + r by simp [movedN, h0, h1])
      clear h0 h1
      go_enter Try.func171, Try.ntmps171
      go_wp2
      go_ret
      exact ⟨ret_int (by rw [HR.out]; try (simp [IntWalk.i64_in]; done)), by (repeat (first | (with_reducible assumption) | (with_reducible exact Below.refl _ _) | ((with_reducible refine Below.alloc ?_ ?hsz _); (case hsz => (first | omega | (simp; done) | (simp; omega) | (simp at *; omega)))) | ((with_reducible refine Below.setCell ?_ ?hsz _); (case hsz => (first | omega | (simp; done) | (simp; omega) | (simp at *; omega)))) | (with_reducible refine Below.drew ?_) | (with_reducible refine below_drewN ?_ _) | ((with_reducible refine Below.trans ?_ (Below.mono (by with_reducible assumption) ?hsz)); (case hsz => (first | omega | (simp; done) | (simp; omega) | (simp at *; omega))))))⟩

theorem set2_list (qs : List Pp) (k : Nat) (hk : k < qs.length) (a b : Int) :
    (((qs.flatMap Pp.cells).set (k * 5) (.int .i64 a)).set (k * 5 + 1) (.int .i64 b)) = (qs.set k ⟨a, b, qs[k].le, qs[k].mo, qs[k].co⟩).flatMap Pp.cells := by
  induction qs generalizing k with
  | nil => simp at hk
  | cons q qs ih =>
    cases k with
    | zero => simp [List.flatMap_cons, Pp.cells]
    | succ k =>
      have h := ih k (by simpa using hk)
      have e : (k + 1) * 5 = k * 5 + 5 := by omega
      have e2 : (q :: qs)[k + 1] = qs[k]'(by simpa using hk) := rfl
      rw [e, e2, List.set_cons_succ, List.flatMap_cons, List.flatMap_cons, ← h]
      simp [Pp.cells]
/- pipes of which the first ones are moved -/
def mvL (b e r : Int) (ps : List Pp) (k : Nat) : List Pp := (ps.take k).map (movedP b e r) ++ ps.drop k
theorem mvL_len (b e r : Int) (ps : List Pp) (k : Nat) (h : k ≤ ps.length) : (mvL b e r ps k).length = ps.length := by simp [mvL]; omega
theorem mvL_at {b e r : Int} {ps : List Pp} {k : Nat} (h : k < ps.length) : (mvL b e r ps k)[k]'(by rw [mvL_len _ _ _ _ _ (by omega)]; exact h) = ps[k] := by
  simp only [mvL]
  rw [List.getElem_append_right (by simp; omega)]
  simp [Nat.min_eq_left (Nat.le_of_lt h)]
theorem mvL_next {b e r : Int} {ps : List Pp} {k : Nat} (h : k < ps.length) : (mvL b e r ps k).set k (movedP b e r ps[k]) = mvL b e r ps (k + 1) := by
  simp only [mvL]
  have hl : ((ps.take k).map (movedP b e r)).length = k := by simp; omega
  rw [List.set_append_right _ _ (by omega), hl, Nat.sub_self, List.drop_eq_getElem_cons h, List.set_cons_zero, List.take_succ_eq_append_getElem h]
  simp only [List.map_append, List.map_cons, List.map_nil, List.append_assoc, List.cons_append, List.nil_append]

set_option maxHeartbeats 4000000 in
set_option maxRecDepth 20000 in
theorem movedPipes_any (v : Value) (ps : List Pp) (bb be rr : Int) (b : Nat) (w : World) (hp : Pipes w b v ps) (hs : ps.length ≤ 1000)
    (hbd : ∀ p ∈ ps, (0 ≤ p.fr ∧ p.fr ≤ 100) ∧ 0 ≤ p.to ∧ p.to ≤ 100) (h0 : 0 ≤ rr) (h1 : rr ≤ 100) :
    Calls Try.prog 146 #[v, .int .i64 bb, .int .i64 be, .int .i64 rr] w fun e w' => ∃ r, e = .returned r ∧ Pipes w' w.heap.size r (ps.map (movedP bb be rr)) ∧ Below w.heap.size w w' := by
  obtain ⟨A, c, rfl, hc1, hc2, -, hcell⟩ := hp.form
  unfold maxLen at hc2
  go_enter Try.func146, Try.ntmps146
  go_wp2_with fail
  refine (clonePipes_any _ ps b _ hp (by omega)).mono ?_
  rintro e w1 ⟨r, rfl, hr, hb1⟩
  obtain ⟨l, hl⟩ : ∃ l, ps.length = l := ⟨_, rfl⟩
  have HL := Lib.hid hl
  have hown1 : w1.ownsRow w.heap.size 45 5 r l ((mvL bb be rr ps 0).flatMap Pp.cells) := by
    have := hr.1
    rw [hl] at this
    simpa [mvL] using this
  rw [hl] at hs hc1 ⊢
  clear hl
  go_wp2_with fail
  go_loopw [16] (fun i wr => ∃ k : Nat, k ≤ l ∧ i = .int .i64 k ∧ wr.ownsRow w.heap.size 45 5 r l ((mvL bb be rr ps k).flatMap Pp.cells) ∧ Below w.heap.size w wr) (fun i _ => l - (intOf i).toNat)
  case atStart => exact ⟨0, by omega, rfl, hown1, hb1⟩
  case round =>
    clear hown1 hb1
    obtain ⟨k, hk, rfl, hown, hb⟩ := hrel
    have hzb := hb.size
    by_cases hlt : k < l
    · have hltp : k < ps.length := by have := HL.out; omega
      obtain ⟨g, rfl, hg1, hg2, c0, c1, c2, c3, c4⟩ := hcell wr hb k hltp
      have hgr : g < wr.heap.size := by omega
      obtain ⟨⟨f0, f1⟩, t0, t1⟩ := hbd _ (List.getElem_mem hltp)
      obtain ⟨qs, hQ⟩ : ∃ qs, qs = mvL bb be rr ps k := ⟨_, rfl⟩
      have hml : qs.length = ps.length := by rw [hQ]; exact mvL_len bb be rr ps k (by omega)
      have hq1 : k < qs.length := by omega
      have HQ := Lib.hid (And.intro (show qs[k] = ps[k] by subst hQ; exact mvL_at hltp) (show qs.set k (movedP bb be rr ps[k]) = mvL bb be rr ps (k + 1) by rw [hQ]; exact mvL_next hltp))
      rw [← hQ] at hown
      clear hQ hml
      obtain ⟨A1, c1', rfl, -, -, -⟩ := own_form hown
      obtain ⟨gr, rfl, hgr1, hgr2, hcn, hcm, -⟩ := own_at hown (by have := hown.1; omega)
      unfold maxLen at hcm
      obtain ⟨W1, hW1⟩ : ∃ W, W = wr.alloc (.cells #[.int .i64 ps[k].fr, .int .i64 ps[k].to, .int .i64 ps[k].le, .int .i64 ps[k].mo, .int .i64 ps[k].co] 45) := ⟨_, rfl⟩
      have hB1 : Below wr.heap.size wr W1 := by rw [hW1]; (repeat (first | (with_reducible assumption) | (with_reducible exact Below.refl _ _) | ((with_reducible refine Below.alloc ?_ ?hsz _); (case hsz => (first | omega | (simp; done) | (simp; omega) | (simp at *; omega)))) | ((with_reducible refine Below.setCell ?_ ?hsz _); (case hsz => (first | omega | (simp; done) | (simp; omega) | (simp at *; omega)))) | (with_reducible refine Below.drew ?_) | (with_reducible refine below_drewN ?_ _) | ((with_reducible refine Below.trans ?_ (Below.mono (by with_reducible assumption) ?hsz)); (case hsz => (first | omega | (simp; done) | (simp; omega) | (simp at *; omega))))))
      have d0 : W1.cell? ⟨wr.heap.size, 0, none⟩ = some (.int .i64 ps[k].fr) := by rw [hW1]; go_simp
      have d1 : W1.cell? ⟨wr.heap.size, 1, none⟩ = some (.int .i64 ps[k].to) := by rw [hW1]; go_simp
      have hz1 : W1.heap.size = wr.heap.size + 1 := by rw [hW1]; simp
      go_wp2_with fail
      rw [← hW1]
      refine (movedNode_any ps[k].fr bb be rr _ (by omega) (by omega) (by omega) (by omega)).mono ?_
      rintro e w2 ⟨rfl, hb2⟩
      have hz2 := hb2.size
      have hB2 := hB1.trans (hb2.mono (by omega))
      have d1' := (hb2.cell (p := ⟨wr.heap.size, 1, none⟩) (by simp; omega)).trans d1
      have hown2 := own_keep hown (Nat.le_refl _) hB2
      obtain ⟨-, ⟨o0, -, -, -, -⟩, hof⟩ := own_cells5 (k := k) hown2 hq1
      obtain ⟨-, ⟨-, o1, -, -, -⟩, -⟩ := own_cells5 (k := k) hown2 hq1
      have hfr0 := hof (k * 5)
      have hfr1 := hof (k * 5 + 1)
      have hst := hown2.stored (k * 5) (.int .i64 (movedN bb be rr ps[k].fr))
      have HS := Lib.hid hst
      have hbB2 : Below w.heap.size w w2 := hb.trans (hB2.mono hzb)
      clear hst hof hown hB1 hb2 d0 d1 hW1 hB2 hown2 hb
      go_wp2_with fail
      refine (movedNode_any ps[k].to bb be rr _ (by omega) (by omega) (by omega) (by omega)).mono ?_
      rintro e w4 ⟨rfl, hb4⟩
      have hz4 := hb4.size
      rw [World.size_setCell] at hz4
      have hown4 := own_keep HS.out.1 (Nat.le_refl _) hb4
      have o14 := (hb4.cell (p := ⟨gr, k * 5 + 1, none⟩) (by simp; omega)).trans ((World.cell?_setCell_other _ _ _ _ (by intro h; injection h with h1 h2; omega)).trans o1)
      have hfr4 := (hb4.frozen (p := ⟨gr, k * 5 + 1, none⟩) (by simp; omega)).trans ((World.frozen?_setCell _ _ _ _).trans hfr1)
      have hst4 := hown4.stored (k * 5 + 1) (.int .i64 (movedN bb be rr ps[k].to))
      have hset := set2_list qs k hq1 (movedN bb be rr ps[k].fr) (movedN bb be rr ps[k].to)
      rw [hset] at hst4
      have hq : (⟨movedN bb be rr ps[k].fr, movedN bb be rr ps[k].to, qs[k].le, qs[k].mo, qs[k].co⟩ : Pp) = movedP bb be rr ps[k] := by
        have := HQ.out.1
        rw [this]
        rfl
      rw [hq, HQ.out.2] at hst4
      have HS4 := Lib.hid hst4.1
      have hbB4 : Below w.heap.size w w4 := (hbB2.setCell (p := ⟨gr, k * 5, none⟩) hgr1 _).trans (hb4.mono (by simp; omega))
      clear hst4 hset hq hown4 hb4 hbB2 hfr0 hfr1 o0 o1 d1'
      go_wp2_with fail
      go_roundw
      case rel => exact ⟨k + 1, by omega, by go_num, HS4.out, hbB4.setCell (p := ⟨gr, k * 5 + 1, none⟩) hgr1 _⟩
      case measure => simp [intOf]; omega
    · have hk2 : k = l := by omega
      subst hk2
      have hfin : mvL bb be rr ps k = ps.map (movedP bb be rr) := by
        have := HL.out
        simp [mvL, ← this]
      rw [hfin] at hown
      have hlm : (ps.map (movedP bb be rr)).length = k := by rw [List.length_map]; exact HL.out
      obtain ⟨A1, c1', rfl, -, -, -⟩ := own_form hown
      have hP : Pipes wr w.heap.size (.slice A1 k c1') (ps.map (movedP bb be rr)) := ⟨by rw [hlm]; exact hown, by rw [hlm]; unfold small; omega⟩
      clear hown hfin hlm
      go_wp2_with fail
      go_ret
      exact ⟨_, rfl, hP, hb⟩

end Go.Proofs.Ytobbeofibkpbaaa
