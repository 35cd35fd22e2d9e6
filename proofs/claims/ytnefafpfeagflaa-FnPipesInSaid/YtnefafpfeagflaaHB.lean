/- Plain facts. -/
import Derived.Test.YtnefafpfeagflaaGA
import Derived.Lib.AppendZerosOnto
import Derived.Test.YtnefafpfeagflaaY2
import Derived.Test.YtnefafpfeagflaaA2
import Derived.Test.YtnefafpfeagflaaAR
/- slices.Concat and slices.Grow of rows of pipes. -/
namespace Go.Proofs.Ytnefafpfeagflaa
open Go.RowKit

/-- rows that are put together: where their headers lie, and their cells -/
def SrcsOk (w : World) (size g m : Nat) (ns : List Nat) (css : List (List Value)) : Prop :=
  ns.length = m ∧ css.length = m ∧ g < w.heap.size ∧ ∀ k, k < m → ∃ v, w.cell? ⟨g, k, none⟩ = some v ∧ ∀ W, Below w.heap.size w W → SrcOk W size v (ns.getD k 0) (css.getD k [])
theorem sum_take_le (ns : List Nat) (k : Nat) : (ns.take k).sum ≤ ns.sum := by
  have h := congrArg List.sum (List.take_append_drop k ns)
  rw [List.sum_append] at h
  omega
theorem sum_take_succ (ns : List Nat) (k : Nat) (h : k < ns.length) : (ns.take (k + 1)).sum = (ns.take k).sum + ns.getD k 0 := by
  rw [List.take_succ_eq_append_getElem h, List.sum_append, List.getD_eq_getElem?_getD, List.getElem?_eq_getElem h]
  simp
theorem flat_take_succ (css : List (List Value)) (k : Nat) (h : k < css.length) : (css.take (k + 1)).flatten = (css.take k).flatten ++ css.getD k [] := by
  rw [List.take_succ_eq_append_getElem h, List.flatten_append, List.getD_eq_getElem?_getD, List.getElem?_eq_getElem h]
  simp

set_option maxHeartbeats 2000000 in
set_option maxRecDepth 20000 in
theorem growPipe_any (n : Nat) (w : World) (hn : n ≤ 100000) :
    Calls Try.prog 88 #[.slice none 0 0, .int .i64 n] w fun e w' => ∃ r, e = .returned r ∧ w'.ownsRow w.heap.size 41 5 r 0 [] ∧ Below w.heap.size w w' := by
  obtain ⟨i0, hi0, hz0, hz1, hz2⟩ := info_parts pipe_info
  by_cases h0 : n = 0
  · subst h0
    go_enter Try.func88, Try.ntmps88
    go_wp2
    go_ret
    exact ⟨_, rfl, World.ownsRow_nil _ _ _ _, by (repeat (first | (with_reducible assumption) | (with_reducible exact Below.refl _ _) | ((with_reducible refine Below.alloc ?_ ?hsz _); (case hsz => (first | omega | (simp; done) | (simp; omega) | (simp at *; omega)))) | ((with_reducible refine Below.setCell ?_ ?hsz _); (case hsz => (first | omega | (simp; done) | (simp; omega) | (simp at *; omega)))) | (with_reducible refine Below.drew ?_) | (with_reducible refine below_drewN ?_ _) | ((with_reducible refine Below.trans ?_ (Below.mono (by with_reducible assumption) ?hsz)); (case hsz => (first | omega | (simp; done) | (simp; omega) | (simp at *; omega))))))⟩
  · have hold : (Builtin.firstCells i0.size 0 (.slice none 0 0)).run Try.prog w.drew = .ok #[] w.drew := run_firstCells_none w.drew i0.size 0 0 0
    have hrz := fun ty => Lib.run_append_grow_zeros w 31 3 ty 41 i0 _ .i64 .i64 Try.underlying31 Try.underlying3 hi0 hz0 none 0 0 [] hold n (by omega) (by omega) (by omega) (by omega) (by rw [hz2]; omega) (growslice_fits (by omega) (by rw [hz2]; omega))
    rw [Nat.zero_add] at hrz
    have hge := grownCap_ge w n 0 41
    have hle := grownCap_le_maxLen w n 0 41 (by unfold maxLen; omega)
    generalize grownCap w n 0 41 = G at *
    have hsz : (w.drew.alloc (.cells (#[] ++ Builtin.zeroCells (Value.cells (i0.zero.getD undef)) n ++ Builtin.zeroCells (Value.cells (i0.zero.getD undef)) (G - n)) 41)).heap.size = w.heap.size + 1 := by simp
    have hown : ∀ cs : Array Value, cs.size = G * 5 → (w.drew.alloc (.cells cs 41)).ownsRow w.heap.size 41 5 (.slice (some ⟨w.heap.size, 0, none⟩) 0 G) 0 [] := fun cs hcs =>
      ⟨by simp, .inr ⟨w.heap.size, G, cs, rfl, Nat.le_refl _, heap_alloc_new w.drew _, Nat.zero_le _, hle, hcs, by simp⟩⟩
    have hGs : G ≤ 9223372036854775807 := by unfold maxLen at hle; omega
    clear hsz
    generalize hcs : (#[] ++ Builtin.zeroCells _ n ++ Builtin.zeroCells _ (G - n) : Array Value) = cs at hrz
    have hcz : cs.size = G * 5 := by
      rw [← hcs]
      simp [size_zeroCells, Value.cells]
      omega
    have hfin := hown cs hcz
    clear hown hcs hle hold
    go_enter Try.func88, Try.ntmps88
    go_wp2_with (at_builtin; refine Lib.wpList_append_run _ rfl _ _ _ _ rfl _ _ rfl rfl _ _ (hrz _) ?_)
    go_ret
    exact ⟨_, rfl, hfin, by (repeat (first | (with_reducible assumption) | (with_reducible exact Below.refl _ _) | ((with_reducible refine Below.alloc ?_ ?hsz _); (case hsz => (first | omega | (simp; done) | (simp; omega) | (simp at *; omega)))) | ((with_reducible refine Below.setCell ?_ ?hsz _); (case hsz => (first | omega | (simp; done) | (simp; omega) | (simp at *; omega)))) | (with_reducible refine Below.drew ?_) | (with_reducible refine below_drewN ?_ _) | ((with_reducible refine Below.trans ?_ (Below.mono (by with_reducible assumption) ?hsz)); (case hsz => (first | omega | (simp; done) | (simp; omega) | (simp at *; omega))))))⟩

set_option maxHeartbeats 4000000 in
set_option maxRecDepth 20000 in
theorem concatPipe_any (g m : Nat) (ns : List Nat) (css : List (List Value)) (w : World) (h : SrcsOk w 5 g m ns css) (hm : m ≤ 3) (hs : ns.sum ≤ 1000) :
    Calls Try.prog 70 #[.slice (some ⟨g, 0, none⟩) m m] w fun e w' => ∃ r, e = .returned r ∧ w'.ownsRow w.heap.size 41 5 r ns.sum css.flatten ∧ Below w.heap.size w w' := by
  obtain ⟨hn, hc, hg, hk⟩ := h
  have HK := Lib.hid hk
  clear hk
  obtain ⟨i0, hi0, hz0, hz1, hz2⟩ := info_parts pipe_info
  have HN := Lib.hid hn
  have HC := Lib.hid hc
  clear hn hc
  have HS := Lib.hid hs
  have HT := Lib.hid (fun k => sum_take_le ns k)
  go_enter Try.func70, Try.ntmps70
  go_wp2_with fail
  go_loopw [11, 3] (fun i t wr => ∃ k : Nat, k ≤ m ∧ i = .int .i64 k ∧ t = .int .i64 ((ns.take k).sum : Nat) ∧ w = wr) (fun i _ _ => m - (intOf i).toNat)
  case atStart => exact ⟨0, by omega, rfl, rfl, rfl⟩
  case round =>
    obtain ⟨k, hkm, rfl, rfl, rfl⟩ := hrel
    have hk1 := HT.out k
    have hs1 := HS.out
    by_cases hlt : k < m
    · obtain ⟨vk, c0, hsr⟩ := HK.out k hlt
      have h1 := HT.out (k + 1)
      have h2 := sum_take_succ ns k (by rw [HN.out]; exact hlt)
      have h9 := hsr w (Below.refl _ _)
      generalize ns.getD k 0 = nk at *
      generalize (ns.take k).sum = s at *
      have H2 := Lib.hid h2
      rw [h2] at h1
      clear h2 hsr
      rcases h9 with ⟨rfl, rfl, -⟩ | ⟨ad, c, rfl, -, -, -⟩
      · go_wp2_with fail
        go_roundw
        case rel => exact ⟨k + 1, by omega, by go_num, by rw [H2.out]; go_num, by first | rfl | trivial⟩
        case measure => simp [intOf]; omega
      · go_wp2_with fail
        go_roundw
        case rel => exact ⟨k + 1, by omega, by go_num, by rw [H2.out]; go_num, by first | rfl | trivial⟩
        case measure => simp [intOf]; omega
    · have hk2 : k = m := by omega
      subst hk2
      have e1 : (ns.take k).sum = ns.sum := by rw [List.take_of_length_le (by rw [HN.out]; exact Nat.le_refl _)]
      rw [e1] at hk1 ⊢
      have HE := Lib.hid e1
      clear e1 hlt hkm
      generalize hS : ns.sum = S at *
      go_wp2_with fail
      refine (growPipe_any S _ (by omega)).mono ?_
      rintro e w1 ⟨r, rfl, hr, hb1⟩
      go_wp2_with fail
      go_loopw [27, 6] (fun i t wr => ∃ j : Nat, j ≤ k ∧ i = .int .i64 j ∧ wr.ownsRow w.heap.size 41 5 t (ns.take j).sum (css.take j).flatten ∧ Below w.heap.size w wr) (fun i _ _ => k - (intOf i).toNat)
      case atStart => exact ⟨0, by omega, rfl, hr, hb1⟩
      case round =>
        clear hr hb1
        obtain ⟨j, hjk, rfl, hown, hb⟩ := hrel
        have hj1 := HT.out j
        have hzb := hb.size
        by_cases hlt : j < k
        · obtain ⟨vk, c0, hsr⟩ := HK.out j hlt
          have c1 := (hb.cell (p := ⟨g, j, none⟩) hg).trans c0
          have h1 := HT.out (j + 1)
          have h2 := sum_take_succ ns j (by rw [HN.out]; exact hlt)
          have h3 := flat_take_succ css j (by rw [HC.out]; exact hlt)
          have h9 := hsr wr hb
          have hgr : g < wr.heap.size := by omega
          generalize ns.getD j 0 = nk at *
          generalize css.getD j [] = ck at *
          rw [h2] at h1
          have H2 := Lib.hid (And.intro h2 h3)
          clear h2 h3 hsr c0
          go_wp2_with (first
            | (at_builtin
               go_must (refine wpList_append_src rfl _ _ 31 rfl w.heap.size 41 i0 _ 5 40 Try.underlying31 hi0 hz0 hz1 hz2 rfl (by omega) _ _ (ns.take j).sum nk _ ck rfl rfl hown h9 (by unfold maxLen; omega) (by omega) hzb ?_)
               intro r2 w7 hown7 hgr7 hat7))
          have hb7 : Below w.heap.size w w7 := Below.grown hb hgr7 hzb (fun q hq => (hown.lt q hq).1)
          rw [← H2.out.1, ← H2.out.2] at hown7
          clear hown h9 hgr7 hat7 hb
          go_roundw
          case rel => exact ⟨j + 1, by omega, by go_num, hown7, hb7⟩
          case measure => simp [intOf]; omega
        · have hj2 : j = k := by omega
          subst hj2
          have e2 : (css.take j).flatten = css.flatten := by rw [List.take_of_length_le (by rw [HC.out]; exact Nat.le_refl _)]
          rw [HE.out, e2, ← hS] at hown
          go_wp2_with fail
          go_ret
          exact ⟨_, rfl, hown, hb⟩

end Go.Proofs.Ytnefafpfeagflaa

/- Contracts of the functions of chapter 8 in the program: movedNode, movedPipes, a pipe's net. -/
namespace Go.Proofs.Ytnefafpfeagflaa
open Go.RowKit

set_option maxHeartbeats 1000000 in
set_option maxRecDepth 20000 in
theorem movedNode_any (x b e r : Int) (w : World) (x0 : -1000 ≤ x) (x1 : x ≤ 1000) (r0 : -1000 ≤ r) (r1 : r ≤ 1000) :
    Calls Try.prog 90 #[.int .i64 x, .int .i64 b, .int .i64 e, .int .i64 r] w fun e' w' => e' = .returned (.int .i64 (movedN b e r x)) ∧ Below w.heap.size w w' := by
  by_cases h0 : x = 0
  · subst h0
    have HR := Lib.hid (show movedN b e r 0 = b from rfl)
    go_enter Try.func90, Try.ntmps90
    go_wp2
    go_ret
    exact ⟨ret_int HR.out.symm, by (repeat (first | (with_reducible assumption) | (with_reducible exact Below.refl _ _) | ((with_reducible refine Below.alloc ?_ ?hsz _); (case hsz => (first | omega | (simp; done) | (simp; omega) | (simp at *; omega)))) | ((with_reducible refine Below.setCell ?_ ?hsz _); (case hsz => (first | omega | (simp; done) | (simp; omega) | (simp at *; omega)))) | (with_reducible refine Below.drew ?_) | (with_reducible refine below_drewN ?_ _) | ((with_reducible refine Below.trans ?_ (Below.mono (by with_reducible assumption) ?hsz)); (case hsz => (first | omega | (simp; done) | (simp; omega) | (simp at *; omega))))))⟩
  · have b0 : (x == 0) = false := by simpa using h0
    by_cases h1 : x = 1
    · subst h1
      have HR := Lib.hid (show movedN b e r 1 = e from rfl)
      clear h0 b0
      go_enter Try.func90, Try.ntmps90
      go_wp2
      go_ret
      exact ⟨ret_int HR.out.symm, by (repeat (first | (with_reducible assumption) | (with_reducible exact Below.refl _ _) | ((with_reducible refine Below.alloc ?_ ?hsz _); (case hsz => (first | omega | (simp; done) | (simp; omega) | (simp at *; omega)))) | ((with_reducible refine Below.setCell ?_ ?hsz _); (case hsz => (first | omega | (simp; done) | (simp; omega) | (simp at *; omega)))) | (with_reducible refine Below.drew ?_) | (with_reducible refine below_drewN ?_ _) | ((with_reducible refine Below.trans ?_ (Below.mono (by with_reducible assumption) ?hsz)); (case hsz => (first | omega | (simp; done) | (simp; omega) | (simp at *; omega))))))⟩
    · have b1 : (x == 1) = false := by simpa using h1
      have HR := Lib.hid (show movedN b e r x = x + r by simp [movedN, h0, h1])
      clear h0 h1
      go_enter Try.func90, Try.ntmps90
      go_wp2
      go_ret
      exact ⟨ret_int (by rw [HR.out]; try (simp [IntWalk.i64_in]; done)), by (repeat (first | (with_reducible assumption) | (with_reducible exact Below.refl _ _) | ((with_reducible refine Below.alloc ?_ ?hsz _); (case hsz => (first | omega | (simp; done) | (simp; omega) | (simp at *; omega)))) | ((with_reducible refine Below.setCell ?_ ?hsz _); (case hsz => (first | omega | (simp; done) | (simp; omega) | (simp at *; omega)))) | (with_reducible refine Below.drew ?_) | (with_reducible refine below_drewN ?_ _) | ((with_reducible refine Below.trans ?_ (Below.mono (by with_reducible assumption) ?hsz)); (case hsz => (first | omega | (simp; done) | (simp; omega) | (simp at *; omega))))))⟩

theorem set2_list (qs : List Pp) (k : Nat) (hk : k < qs.length) (a b : Int) :
    (((qs.flatMap Pp.cells).set (k * 5) (.int .i64 a)).set (k * 5 + 1) (.int .i64 b)) = (qs.set k ⟨a, b, qs[k].le, qs[k].mo, qs[k].co⟩).flatMap Pp.cells := by
  induction qs generalizing k with
  | nil => simp at hk
  | cons q qs ih =>
    cases k with
    | zero => simp [List.flatMap_cons, Pp.cells]
    | succ k =>
      have h := ih k (by simpa using hk)
      have e : (k + 1) * 5 = k * 5 + 5 := by omega
      have e2 : (q :: qs)[k + 1] = qs[k]'(by simpa using hk) := rfl
      rw [e, e2, List.set_cons_succ, List.flatMap_cons, List.flatMap_cons, ← h]
      simp [Pp.cells]
/- pipes of which the first ones are moved -/
def mvL (b e r : Int) (ps : List Pp) (k : Nat) : List Pp := (ps.take k).map (movedP b e r) ++ ps.drop k
theorem mvL_len (b e r : Int) (ps : List Pp) (k : Nat) (h : k ≤ ps.length) : (mvL b e r ps k).length = ps.length := by simp [mvL]; omega
theorem mvL_at {b e r : Int} {ps : List Pp} {k : Nat} (h : k < ps.length) : (mvL b e r ps k)[k]'(by rw [mvL_len _ _ _ _ _ (by omega)]; exact h) = ps[k] := by
  simp only [mvL]
  rw [List.getElem_append_right (by simp; omega)]
  simp [Nat.min_eq_left (Nat.le_of_lt h)]
theorem mvL_next {b e r : Int} {ps : List Pp} {k : Nat} (h : k < ps.length) : (mvL b e r ps k).set k (movedP b e r ps[k]) = mvL b e r ps (k + 1) := by
  simp only [mvL]
  have hl : ((ps.take k).map (movedP b e r)).length = k := by simp; omega
  rw [List.set_append_right _ _ (by omega), hl, Nat.sub_self, List.drop_eq_getElem_cons h, List.set_cons_zero, List.take_succ_eq_append_getElem h]
  simp only [List.map_append, List.map_cons, List.map_nil, List.append_assoc, List.cons_append, List.nil_append]

set_option maxHeartbeats 4000000 in
set_option maxRecDepth 20000 in
theorem movedPipes_any (v : Value) (ps : List Pp) (bb be rr : Int) (b : Nat) (w : World) (hp : Pipes w b v ps) (hs : ps.length ≤ 1000)
    (hbd : ∀ p ∈ ps, (0 ≤ p.fr ∧ p.fr ≤ 100) ∧ 0 ≤ p.to ∧ p.to ≤ 100) (h0 : 0 ≤ rr) (h1 : rr ≤ 100) :
    Calls Try.prog 71 #[v, .int .i64 bb, .int .i64 be, .int .i64 rr] w fun e w' => ∃ r, e = .returned r ∧ Pipes w' w.heap.size r (ps.map (movedP bb be rr)) ∧ Below w.heap.size w w' := by
  obtain ⟨A, c, rfl, hc1, hc2, -, hcell⟩ := hp.form
  unfold maxLen at hc2
  go_enter Try.func71, Try.ntmps71
  go_wp2_with fail
  refine (clonePipes_any _ ps b _ hp (by omega)).mono ?_
  rintro e w1 ⟨r, rfl, hr, hb1⟩
  obtain ⟨l, hl⟩ : ∃ l, ps.length = l := ⟨_, rfl⟩
  have HL := Lib.hid hl
  have hown1 : w1.ownsRow w.heap.size 41 5 r l ((mvL bb be rr ps 0).flatMap Pp.cells) := by
    have := hr.1
    rw [hl] at this
    simpa [mvL] using this
  rw [hl] at hs hc1 ⊢
  clear hl
  go_wp2_with fail
  go_loopw [16] (fun i wr => ∃ k : Nat, k ≤ l ∧ i = .int .i64 k ∧ wr.ownsRow w.heap.size 41 5 r l ((mvL bb be rr ps k).flatMap Pp.cells) ∧ Below w.heap.size w wr) (fun i _ => l - (intOf i).toNat)
  case atStart => exact ⟨0, by omega, rfl, hown1, hb1⟩
  case round =>
    clear hown1 hb1
    obtain ⟨k, hk, rfl, hown, hb⟩ := hrel
    have hzb := hb.size
    by_cases hlt : k < l
    · have hltp : k < ps.length := by have := HL.out; omega
      obtain ⟨g, rfl, hg1, hg2, c0, c1, c2, c3, c4⟩ := hcell wr hb k hltp
      have hgr : g < wr.heap.size := by omega
      obtain ⟨⟨f0, f1⟩, t0, t1⟩ := hbd _ (List.getElem_mem hltp)
      obtain ⟨qs, hQ⟩ : ∃ qs, qs = mvL bb be rr ps k := ⟨_, rfl⟩
      have hml : qs.length = ps.length := by rw [hQ]; exact mvL_len bb be rr ps k (by omega)
      have hq1 : k < qs.length := by omega
      have HQ := Lib.hid (And.intro (show qs[k] = ps[k] by subst hQ; exact mvL_at hltp) (show qs.set k (movedP bb be rr ps[k]) = mvL bb be rr ps (k + 1) by rw [hQ]; exact mvL_next hltp))
      rw [← hQ] at hown
      clear hQ hml
      obtain ⟨A1, c1', rfl, -, -, -⟩ := own_form hown
      obtain ⟨gr, rfl, hgr1, hgr2, hcn, hcm, -⟩ := own_at hown (by have := hown.1; omega)
      unfold maxLen at hcm
      obtain ⟨W1, hW1⟩ : ∃ W, W = wr.alloc (.cells #[.int .i64 ps[k].fr, .int .i64 ps[k].to, .int .i64 ps[k].le, .int .i64 ps[k].mo, .int .i64 ps[k].co] 41) := ⟨_, rfl⟩
      have hB1 : Below wr.heap.size wr W1 := by rw [hW1]; (repeat (first | (with_reducible assumption) | (with_reducible exact Below.refl _ _) | ((with_reducible refine Below.alloc ?_ ?hsz _); (case hsz => (first | omega | (simp; done) | (simp; omega) | (simp at *; omega)))) | ((with_reducible refine Below.setCell ?_ ?hsz _); (case hsz => (first | omega | (simp; done) | (simp; omega) | (simp at *; omega)))) | (with_reducible refine Below.drew ?_) | (with_reducible refine below_drewN ?_ _) | ((with_reducible refine Below.trans ?_ (Below.mono (by with_reducible assumption) ?hsz)); (case hsz => (first | omega | (simp; done) | (simp; omega) | (simp at *; omega))))))
      have d0 : W1.cell? ⟨wr.heap.size, 0, none⟩ = some (.int .i64 ps[k].fr) := by rw [hW1]; go_simp
      have d1 : W1.cell? ⟨wr.heap.size, 1, none⟩ = some (.int .i64 ps[k].to) := by rw [hW1]; go_simp
      have hz1 : W1.heap.size = wr.heap.size + 1 := by rw [hW1]; simp
      go_wp2_with fail
      rw [← hW1]
      refine (movedNode_any ps[k].fr bb be rr _ (by omega) (by omega) (by omega) (by omega)).mono ?_
      rintro e w2 ⟨rfl, hb2⟩
      have hz2 := hb2.size
      have hB2 := hB1.trans (hb2.mono (by omega))
      have d1' := (hb2.cell (p := ⟨wr.heap.size, 1, none⟩) (by simp; omega)).trans d1
      have hown2 := own_keep hown (Nat.le_refl _) hB2
      obtain ⟨-, ⟨o0, -, -, -, -⟩, hof⟩ := own_cells5 (k := k) hown2 hq1
      obtain ⟨-, ⟨-, o1, -, -, -⟩, -⟩ := own_cells5 (k := k) hown2 hq1
      have hfr0 := hof (k * 5)
      have hfr1 := hof (k * 5 + 1)
      have hst := hown2.stored (k * 5) (.int .i64 (movedN bb be rr ps[k].fr))
      have HS := Lib.hid hst
      have hbB2 : Below w.heap.size w w2 := hb.trans (hB2.mono hzb)
      clear hst hof hown hB1 hb2 d0 d1 hW1 hB2 hown2 hb
      go_wp2_with fail
      refine (movedNode_any ps[k].to bb be rr _ (by omega) (by omega) (by omega) (by omega)).mono ?_
      rintro e w4 ⟨rfl, hb4⟩
      have hz4 := hb4.size
      rw [World.size_setCell] at hz4
      have hown4 := own_keep HS.out.1 (Nat.le_refl _) hb4
      have o14 := (hb4.cell (p := ⟨gr, k * 5 + 1, none⟩) (by simp; omega)).trans ((World.cell?_setCell_other _ _ _ _ (by intro h; injection h with h1 h2; omega)).trans o1)
      have hfr4 := (hb4.frozen (p := ⟨gr, k * 5 + 1, none⟩) (by simp; omega)).trans ((World.frozen?_setCell _ _ _ _).trans hfr1)
      have hst4 := hown4.stored (k * 5 + 1) (.int .i64 (movedN bb be rr ps[k].to))
      have hset := set2_list qs k hq1 (movedN bb be rr ps[k].fr) (movedN bb be rr ps[k].to)
      rw [hset] at hst4
      have hq : (⟨movedN bb be rr ps[k].fr, movedN bb be rr ps[k].to, qs[k].le, qs[k].mo, qs[k].co⟩ : Pp) = movedP bb be rr ps[k] := by
        have := HQ.out.1
        rw [this]
        rfl
      rw [hq, HQ.out.2] at hst4
      have HS4 := Lib.hid hst4.1
      have hbB4 : Below w.heap.size w w4 := (hbB2.setCell (p := ⟨gr, k * 5, none⟩) hgr1 _).trans (hb4.mono (by simp; omega))
      clear hst4 hset hq hown4 hb4 hbB2 hfr0 hfr1 o0 o1 d1'
      go_wp2_with fail
      go_roundw
      case rel => exact ⟨k + 1, by omega, by go_num, HS4.out, hbB4.setCell (p := ⟨gr, k * 5 + 1, none⟩) hgr1 _⟩
      case measure => simp [intOf]; omega
    · have hk2 : k = l := by omega
      subst hk2
      have hfin : mvL bb be rr ps k = ps.map (movedP bb be rr) := by
        have := HL.out
        simp [mvL, ← this]
      rw [hfin] at hown
      have hlm : (ps.map (movedP bb be rr)).length = k := by rw [List.length_map]; exact HL.out
      obtain ⟨A1, c1', rfl, -, -, -⟩ := own_form hown
      have hP : Pipes wr w.heap.size (.slice A1 k c1') (ps.map (movedP bb be rr)) := ⟨by rw [hlm]; exact hown, by rw [hlm]; unfold small; omega⟩
      clear hown hfin hlm
      go_wp2_with fail
      go_ret
      exact ⟨_, rfl, hP, hb⟩

end Go.Proofs.Ytnefafpfeagflaa

/- Contracts of the functions of chapter 8 in the program: a pipe's net, joinedNets. -/
namespace Go.Proofs.Ytnefafpfeagflaa
open Go.RowKit

/- what two nets make -/
def joinN (s : Bool) (n m : Int) : Int := if s then n + m - 2 else n + m - 1
def joinP (s : Bool) (n : Int) (ps qs : List Pp) : List Pp := if s then ps ++ qs.map (movedP 0 1 (n - 2)) else ps.map (movedP 0 2 1) ++ qs.map (movedP 2 1 (n - 1))

theorem catPipes {w : World} {b : Nat} {v : Value} {L1 L2 : List Pp} (h : w.ownsRow b 41 5 v [L1.length, L2.length].sum [L1.flatMap Pp.cells, L2.flatMap Pp.cells].flatten) (hs : L1.length + L2.length ≤ small := by unfold small; omega) : Pipes w b v (L1 ++ L2) := by
  refine ⟨?_, by simpa using hs⟩
  rw [List.flatMap_append, List.length_append]
  simpa using h
theorem twoPipes {w : World} {g b b' : Nat} {u v : Value} {L1 L2 : List Pp} {t : TypeId} {fr : Nat × Nat} (h : w.heap[g]? = some (.cells #[u, v] t fr)) (h1 : Pipes w b u L1) (h2 : Pipes w b' v L2) :
    SrcsOk w 5 g 2 [L1.length, L2.length] [L1.flatMap Pp.cells, L2.flatMap Pp.cells] := by
  refine ⟨rfl, rfl, heap_lt h, fun k hk => ?_⟩
  have hk2 : k = 0 ∨ k = 1 := by omega
  rcases hk2 with rfl | rfl
  · exact ⟨u, heap_cell h rfl, fun W hW => (h1.keep hW).src⟩
  · exact ⟨v, heap_cell h rfl, fun W hW => (h2.keep hW).src⟩

set_option maxHeartbeats 1000000 in
set_option maxRecDepth 20000 in
theorem pipeNet_any (k h p : Int) (w : World) :
    Calls Try.prog 42 #[.agg #[.int .i64 k, .int .i64 h, .int .i64 p]] w fun e w' => ∃ r, e = .returned (.agg #[.int .i64 2, r]) ∧ Pipes w' w.heap.size r [⟨0, 1, 0, h, p⟩] ∧ Below w.heap.size w w' := by
  go_enter Try.func42, Try.ntmps42
  go_wp2
  refine bodyPost_ret (v := .agg #[.int .i64 2, .slice (some ⟨w.heap.size + 2, 0, none⟩) 1 1]) (by simp [results, Try.results42, go_sem]) rfl ⟨_, rfl, ?_, by (repeat (first | (with_reducible assumption) | (with_reducible exact Below.refl _ _) | ((with_reducible refine Below.alloc ?_ ?hsz _); (case hsz => (first | omega | (simp; done) | (simp; omega) | (simp at *; omega)))) | ((with_reducible refine Below.setCell ?_ ?hsz _); (case hsz => (first | omega | (simp; done) | (simp; omega) | (simp at *; omega)))) | (with_reducible refine Below.drew ?_) | (with_reducible refine below_drewN ?_ _) | ((with_reducible refine Below.trans ?_ (Below.mono (by with_reducible assumption) ?hsz)); (case hsz => (first | omega | (simp; done) | (simp; omega) | (simp at *; omega))))))⟩
  have h0 := World.ownsRow_lit (e := 41) (base := w.heap.size) (size := 5) ((w.alloc (.cells #[.int .i64 k, .int .i64 h, .int .i64 p] 27)).alloc (.cells #[.int .i64 2, .slice (some ⟨w.heap.size + 1 + 1, 0, none⟩) 1 1] 33)) #[.int .i64 0, .int .i64 1, .int .i64 0, .int .i64 h, .int .i64 p] 1 (by simp; omega) (by simp [maxLen]) rfl
  rw [World.size_alloc, World.size_alloc] at h0
  exact ⟨h0, by simp [small]⟩

/-- what the operations yield -/
def jbV (W : World) (g4 g5 g6 : Nat) (N2 F N : Int) (v1 v2 : Value) (L1 L2 : List Pp) : Nat → Value → World → Prop
  | 0, x, _ => x = .pointer (some ⟨g5, 0, none⟩)
  | 1, x, _ => x = .int .i64 N2
  | 2, x, _ => x = .int .i64 F
  | 3, x, _ => x = .int .i64 N
  | 4, x, _ => x = .pointer (some ⟨g4, 1, none⟩)
  | 5, x, _ => x = v1
  | 6, x, _ => x = .pointer (some ⟨g5, 1, none⟩)
  | 7, x, _ => x = v2
  | 8, x, _ => x = .int .i64 F
  | 9, x, w => Pipes w W.heap.size x L2
  | 10, x, w => ∃ g s, x = .slice (some ⟨g, 0, none⟩) 2 2 ∧ w.heap[g]? = some (.cells #[v1, s] 31 (0, 0)) ∧ Pipes w W.heap.size s L2
  | 11, x, w => Pipes w W.heap.size x (L1 ++ L2)
  | 12, x, w => ∃ s, x = .agg #[.int .i64 N, s] ∧ Pipes w W.heap.size s (L1 ++ L2)
  | 13, x, w => x = x ∧ ∃ w' s, Below W.heap.size W w' ∧ Pipes w' W.heap.size s (L1 ++ L2) ∧ w = (w'.setCell ⟨g6, 0, none⟩ (.int .i64 N)).setCell ⟨g6, 1, none⟩ s
  | _, _, _ => True
/-- what the operations yield -/
def jtV (W : World) (g4 g5 g6 : Nat) (N1 N2 F N : Int) (v1 v2 : Value) (L1 L2 : List Pp) : Nat → Value → World → Prop
  | 0, x, _ => x = .pointer (some ⟨g4, 0, none⟩)
  | 1, x, _ => x = .int .i64 N1
  | 2, x, _ => x = .pointer (some ⟨g5, 0, none⟩)
  | 3, x, _ => x = .int .i64 N2
  | 4, x, _ => x = .int .i64 (N1 + N2)
  | 5, x, _ => x = .int .i64 N
  | 6, x, _ => x = .pointer (some ⟨g4, 1, none⟩)
  | 7, x, _ => x = v1
  | 8, x, w => Pipes w W.heap.size x L1
  | 9, x, _ => x = .pointer (some ⟨g5, 1, none⟩)
  | 10, x, _ => x = v2
  | 11, x, _ => x = .pointer (some ⟨g4, 0, none⟩)
  | 12, x, _ => x = .int .i64 N1
  | 13, x, _ => x = .int .i64 F
  | 14, x, w => Pipes w W.heap.size x L2
  | 15, x, w => ∃ g s s', x = .slice (some ⟨g, 0, none⟩) 2 2 ∧ w.heap[g]? = some (.cells #[s, s'] 31 (0, 0)) ∧ Pipes w W.heap.size s L1 ∧ Pipes w W.heap.size s' L2
  | 16, x, w => Pipes w W.heap.size x (L1 ++ L2)
  | 17, x, w => ∃ s, x = .agg #[.int .i64 N, s] ∧ Pipes w W.heap.size s (L1 ++ L2)
  | 18, x, w => x = x ∧ ∃ w' s, Below W.heap.size W w' ∧ Pipes w' W.heap.size s (L1 ++ L2) ∧ w = (w'.setCell ⟨g6, 0, none⟩ (.int .i64 N)).setCell ⟨g6, 1, none⟩ s
  | _, _, _ => True

set_option maxHeartbeats 8000000 in
set_option maxRecDepth 20000 in
theorem joinedNets_any (s : Bool) (N1 N2 : Int) (u v : Value) (ps qs : List Pp) (b b' : Nat) (w : World) (hp0 : Pipes w b u ps) (hq0 : Pipes w b' v qs) (hl1 : ps.length ≤ 100) (hl2 : qs.length ≤ 100)
    (hn1 : 2 ≤ N1 ∧ N1 ≤ 50) (hn2 : 2 ≤ N2 ∧ N2 ≤ 50) (hbp : ∀ p ∈ ps, (0 ≤ p.fr ∧ p.fr ≤ 100) ∧ 0 ≤ p.to ∧ p.to ≤ 100) (hbq : ∀ p ∈ qs, (0 ≤ p.fr ∧ p.fr ≤ 100) ∧ 0 ≤ p.to ∧ p.to ≤ 100) :
    Calls Try.prog 43 #[.int .i64 (kindI s), .agg #[.int .i64 N1, u], .agg #[.int .i64 N2, v]] w fun e w' => ∃ r, e = .returned (.agg #[.int .i64 (joinN s N1 N2), r]) ∧ Pipes w' w.heap.size r (joinP s N1 ps qs) ∧ Below w.heap.size w w' := by
  obtain ⟨Au, cu, rfl, -, -, -, -⟩ := hp0.form
  obtain ⟨Av, cv, rfl, -, -, -, -⟩ := hq0.form
  obtain ⟨lu, hlu⟩ : ∃ l, ps.length = l := ⟨_, rfl⟩
  obtain ⟨lv, hlv⟩ : ∃ l, qs.length = l := ⟨_, rfl⟩
  have HLU := Lib.hid hlu
  have HLV := Lib.hid hlv
  obtain ⟨n10, n11⟩ := hn1
  obtain ⟨n20, n21⟩ := hn2
  obtain ⟨W7, hW7⟩ : ∃ W, W = ((w.alloc (.cells #[.int .i64 N1, .slice Au lu cu] 33)).alloc (.cells #[.int .i64 N2, .slice Av lv cv] 33)).alloc (.cells #[.int .i64 0, .slice none 0 0] 33) := ⟨_, rfl⟩
  have hb7 : Below w.heap.size w W7 := by rw [hW7]; (repeat (first | (with_reducible assumption) | (with_reducible exact Below.refl _ _) | ((with_reducible refine Below.alloc ?_ ?hsz _); (case hsz => (first | omega | (simp; done) | (simp; omega) | (simp at *; omega)))) | ((with_reducible refine Below.setCell ?_ ?hsz _); (case hsz => (first | omega | (simp; done) | (simp; omega) | (simp at *; omega)))) | (with_reducible refine Below.drew ?_) | (with_reducible refine below_drewN ?_ _) | ((with_reducible refine Below.trans ?_ (Below.mono (by with_reducible assumption) ?hsz)); (case hsz => (first | omega | (simp; done) | (simp; omega) | (simp at *; omega))))))
  have hz7 : W7.heap.size = w.heap.size + 3 := by rw [hW7]; simp
  have h4 : w.heap.size < W7.heap.size := by omega
  have h5 : w.heap.size + 1 < W7.heap.size := by omega
  have h6 : w.heap.size + 1 + 1 < W7.heap.size := by omega
  have h6w : w.heap.size ≤ w.heap.size + 1 + 1 := by omega
  have d40 : W7.cell? ⟨w.heap.size, 0, none⟩ = some (.int .i64 N1) := by rw [hW7]; go_simp
  have d41 : W7.cell? ⟨w.heap.size, 1, none⟩ = some (.slice Au lu cu) := by rw [hW7]; go_simp
  have d50 : W7.cell? ⟨w.heap.size + 1, 0, none⟩ = some (.int .i64 N2) := by rw [hW7]; go_simp
  have d51 : W7.cell? ⟨w.heap.size + 1, 1, none⟩ = some (.slice Av lv cv) := by rw [hW7]; go_simp
  have d60 : W7.cell? ⟨w.heap.size + 1 + 1, 0, none⟩ = some (.int .i64 0) := by rw [hW7]; go_simp
  have d61 : W7.cell? ⟨w.heap.size + 1 + 1, 1, none⟩ = some (.slice none 0 0) := by rw [hW7]; go_simp
  have f60 : W7.frozen? ⟨w.heap.size + 1 + 1, 0, none⟩ = false := by rw [hW7]; go_simp
  have f61 : W7.frozen? ⟨w.heap.size + 1 + 1, 1, none⟩ = false := by rw [hW7]; go_simp
  have hp := hp0.keep hb7
  have hq := hq0.keep hb7
  rw [hlu] at hp hl1 ⊢
  rw [hlv] at hq hl2 ⊢
  clear hp0 hq0
  cases s with
  | true =>
    obtain ⟨F, hF⟩ : ∃ F, N1 - 2 = F := ⟨_, rfl⟩
    obtain ⟨N, hN⟩ : ∃ N, joinN true N1 N2 = N := ⟨_, rfl⟩
    have hNv : N2 + F = N := by rw [← hN, ← hF]; simp [joinN]; omega
    obtain ⟨L1, hL1⟩ : ∃ L, L = ps := ⟨_, rfl⟩
    subst hL1
    obtain ⟨L2, hL2⟩ : ∃ L, L = qs.map (movedP 0 1 F) := ⟨_, rfl⟩
    have hJ : joinP true N1 L1 qs = L1 ++ L2 := by rw [hL2, ← hF]; rfl
    have hll1 : L1.length = lu := hlu
    have hll2 : L2.length = lv := by rw [hL2, List.length_map, hlv]
    rw [hN, hJ]
    have hk : kindI true = 2 := rfl
    rw [hk]
    have hF0 : 0 ≤ F := by omega
    have hF1 : F ≤ 100 := by omega
    have HF2 := Lib.hid hF
    have HLs2 := Lib.hid hL2
    have hq1k : qs.length ≤ 1000 := by omega
    clear hk hN hJ hlu hlv hF hL2
    go_enter Try.func43, Try.ntmps43
    go_wp2_with fail
    rw [← hW7, HF2.out]
    clear hW7
    refine wp_region_flowL 14 none [(0, 13), (1, 14), (2, 15), (3, 16), (4, 17), (5, 18), (6, 19), (7, 20), (8, 21), (9, 22), (10, 23), (11, 24), (12, 25)] (fun j x _ wx => jbV W7 w.heap.size (w.heap.size + 1) (w.heap.size + 1 + 1) N2 F N (.slice Au lu cu) (.slice Av lv cv) L1 L2 j x wx) (fun i wx wy => if i = 13 then True else Below wx.heap.size wx wy) (fun f wx => 1 ≤ f → Below W7.heap.size W7 wx) (by kernel_rfl) (by kernel_rfl) rfl (fun _ => ⟨rfl, rfl, rfl, Nat.le_refl _, fun _ _ => rfl⟩) ?_ ?_ ?_ ?_
    · intro i k hi hk hal x u wa wb hR hV
      have hk' : k < 14 := hk
      have hi' : i < 14 := hi
      by_cases nn : k = 13
      · subst nn
        exfalso
        rcases i with _ | _ | _ | _ | _ | _ | _ | _ | _ | _ | _ | _ | _ | _ | i
        all_goals (first | omega | (revert hal; decide))
      · by_cases ii : i = 13
        · subst ii
          rcases k with _ | _ | _ | _ | _ | _ | _ | _ | _ | _ | _ | _ | _ | _ | k
          all_goals first | exact hV | (exfalso; revert hal; decide) | (exfalso; omega)
        · have hbb : Below wa.heap.size wa wb := by simpa [ii] using hR
          rcases k with _ | _ | _ | _ | _ | _ | _ | _ | _ | _ | _ | _ | _ | _ | k
          all_goals first
            | exact hV
            | (exfalso; omega)
            | exact Pipes.keep hV hbb
            | (obtain ⟨s, h1, h2⟩ := hV; exact ⟨s, h1, h2.keep hbb⟩)
            | (obtain ⟨g, s, h1, h2, h3⟩ := hV; exact ⟨g, s, h1, heap_keep h2 hbb, h3.keep hbb⟩)
            | (obtain ⟨g, s, s', h1, h2, h3, h4⟩ := hV; exact ⟨g, s, s', h1, heap_keep h2 hbb, h3.keep hbb, h4.keep hbb⟩)
    · exact fun _ _ _ _ _ _ _ h => h
    · simp (maxSteps := 4000000) only [eachOp, fillF, List.setIfInBounds_toArray, List.set_cons_succ, List.set_cons_zero]
      refine ⟨?_, ?_, ?_, ?_, ?_, ?_, ?_, ?_, ?_, ?_, ?_, ?_, ?_, ?_, trivial⟩ <;> intro u f wx hC hd hf <;> (try simp [allV, useOf, Region.binds] at hd)
      · have hf1 : 1 ≤ f := Nat.le_trans (by decide) hf.1
        have hB := hC (by omega)
        clear hf
        have hBz := hB.size
        go_wp2
        first | exact ⟨_, rfl, rfl, Below.refl _ _, fun _ => hB⟩ | exact ⟨_, rfl, rfl, Below.refl _ _, hB⟩
      · rw [show u 0 = _ from (by first | exact hd | exact hd.1 | exact hd.2 | exact hd.2.1 | exact hd.2.2 | exact hd.2.2.1 | exact hd.2.2.2 | exact hd.2.2.2.1 | exact hd.2.2.2.2)]
        have hf1 : 1 ≤ f := Nat.le_trans (by decide) hf.1
        have hB := hC (by omega)
        clear hf
        have hBz := hB.size
        have e0 := (hB.cell (p := ⟨w.heap.size + 1, 0, none⟩) h5).trans d50
        go_wp2
        first | exact ⟨_, rfl, rfl, Below.refl _ _, fun _ => hB⟩ | exact ⟨_, rfl, rfl, Below.refl _ _, hB⟩
      · have hf1 : 1 ≤ f := Nat.le_trans (by decide) hf.1
        have hB := hC (by omega)
        clear hf
        have hBz := hB.size
        go_wp2
        first | exact ⟨_, rfl, rfl, Below.refl _ _, fun _ => hB⟩ | exact ⟨_, rfl, rfl, Below.refl _ _, hB⟩
      · rw [show u 1 = _ from (by first | exact hd | exact hd.1 | exact hd.2 | exact hd.2.1 | exact hd.2.2 | exact hd.2.2.1 | exact hd.2.2.2 | exact hd.2.2.2.1 | exact hd.2.2.2.2), show u 2 = _ from (by first | exact hd | exact hd.1 | exact hd.2 | exact hd.2.1 | exact hd.2.2 | exact hd.2.2.1 | exact hd.2.2.2 | exact hd.2.2.2.1 | exact hd.2.2.2.2)]
        have hf1 : 1 ≤ f := Nat.le_trans (by decide) hf.1
        have hB := hC (by omega)
        clear hf
        have hBz := hB.size
        have hw : IntKind.i64.wrap (N2 + F) = N := by rw [IntWalk.i64_in _ (by omega)]; omega
        go_wp2
        first | exact ⟨_, rfl, rfl, Below.refl _ _, fun _ => hB⟩ | exact ⟨_, rfl, rfl, Below.refl _ _, hB⟩
      · have hf1 : 1 ≤ f := Nat.le_trans (by decide) hf.1
        have hB := hC (by omega)
        clear hf
        have hBz := hB.size
        go_wp2
        first | exact ⟨_, rfl, rfl, Below.refl _ _, fun _ => hB⟩ | exact ⟨_, rfl, rfl, Below.refl _ _, hB⟩
      · rw [show u 4 = _ from (by first | exact hd | exact hd.1 | exact hd.2 | exact hd.2.1 | exact hd.2.2 | exact hd.2.2.1 | exact hd.2.2.2 | exact hd.2.2.2.1 | exact hd.2.2.2.2)]
        have hf1 : 1 ≤ f := Nat.le_trans (by decide) hf.1
        have hB := hC (by omega)
        clear hf
        have hBz := hB.size
        have e0 := (hB.cell (p := ⟨w.heap.size, 1, none⟩) h4).trans d41
        go_wp2
        first | exact ⟨_, rfl, rfl, Below.refl _ _, fun _ => hB⟩ | exact ⟨_, rfl, rfl, Below.refl _ _, hB⟩
      · have hf1 : 1 ≤ f := Nat.le_trans (by decide) hf.1
        have hB := hC (by omega)
        clear hf
        have hBz := hB.size
        go_wp2
        first | exact ⟨_, rfl, rfl, Below.refl _ _, fun _ => hB⟩ | exact ⟨_, rfl, rfl, Below.refl _ _, hB⟩
      · rw [show u 6 = _ from (by first | exact hd | exact hd.1 | exact hd.2 | exact hd.2.1 | exact hd.2.2 | exact hd.2.2.1 | exact hd.2.2.2 | exact hd.2.2.2.1 | exact hd.2.2.2.2)]
        have hf1 : 1 ≤ f := Nat.le_trans (by decide) hf.1
        have hB := hC (by omega)
        clear hf
        have hBz := hB.size
        have e0 := (hB.cell (p := ⟨w.heap.size + 1, 1, none⟩) h5).trans d51
        go_wp2
        first | exact ⟨_, rfl, rfl, Below.refl _ _, fun _ => hB⟩ | exact ⟨_, rfl, rfl, Below.refl _ _, hB⟩
      · have hf1 : 1 ≤ f := Nat.le_trans (by decide) hf.1
        have hB := hC (by omega)
        clear hf
        have hBz := hB.size
        go_wp2
        first | exact ⟨_, rfl, rfl, Below.refl _ _, fun _ => hB⟩ | exact ⟨_, rfl, rfl, Below.refl _ _, hB⟩
      · rw [show u 7 = _ from (by first | exact hd | exact hd.1 | exact hd.2 | exact hd.2.1 | exact hd.2.2 | exact hd.2.2.1 | exact hd.2.2.2 | exact hd.2.2.2.1 | exact hd.2.2.2.2), show u 8 = _ from (by first | exact hd | exact hd.1 | exact hd.2 | exact hd.2.1 | exact hd.2.2 | exact hd.2.2.1 | exact hd.2.2.2 | exact hd.2.2.2.1 | exact hd.2.2.2.2)]
        have hf1 : 1 ≤ f := Nat.le_trans (by decide) hf.1
        have hB := hC (by omega)
        clear hf
        have hBz := hB.size
        go_wp2_with fail
        refine (movedPipes_any _ qs 0 1 F _ wx (hq.keep hB) (by omega) hbq (by omega) (by omega)).mono ?_
        rintro e wy ⟨r, rfl, hr, hby⟩
        rw [← HLs2.out] at hr
        go_wp2
        first | exact ⟨_, rfl, hr.mono hBz, hby, fun _ => hB.trans (hby.mono hBz)⟩ | exact ⟨_, rfl, hr.mono hBz, hby, hB.trans (hby.mono hBz)⟩
      · rw [show u 5 = _ from (by first | exact hd | exact hd.1 | exact hd.2 | exact hd.2.1 | exact hd.2.2 | exact hd.2.2.1 | exact hd.2.2.2 | exact hd.2.2.2.1 | exact hd.2.2.2.2)]
        have hf1 : 1 ≤ f := Nat.le_trans (by decide) hf.1
        have hB := hC (by omega)
        clear hf
        have hBz := hB.size
        have hP2 : Pipes wx W7.heap.size (u 9) L2 := (by first | exact hd.1 | exact hd.2)
        obtain ⟨A2, c2, hv2, -, -, -, -⟩ := hP2.form
        rw [hll2] at hv2
        rw [hv2] at hP2 ⊢
        clear hv2 hd
        have hP2x := hP2
        go_wp2
        first | exact ⟨_, rfl, ⟨_, _, rfl, heap_alloc_new _ _, hP2.keep (by (repeat (first | (with_reducible assumption) | (with_reducible exact Below.refl _ _) | ((with_reducible refine Below.alloc ?_ ?hsz _); (case hsz => (first | omega | (simp; done) | (simp; omega) | (simp at *; omega)))) | ((with_reducible refine Below.setCell ?_ ?hsz _); (case hsz => (first | omega | (simp; done) | (simp; omega) | (simp at *; omega)))) | (with_reducible refine Below.drew ?_) | (with_reducible refine below_drewN ?_ _) | ((with_reducible refine Below.trans ?_ (Below.mono (by with_reducible assumption) ?hsz)); (case hsz => (first | omega | (simp; done) | (simp; omega) | (simp at *; omega)))))))⟩, (Below.refl _ _).alloc (Nat.le_refl _) _, fun _ => hB.alloc hBz _⟩ | exact ⟨_, rfl, ⟨_, _, rfl, heap_alloc_new _ _, hP2.keep (by (repeat (first | (with_reducible assumption) | (with_reducible exact Below.refl _ _) | ((with_reducible refine Below.alloc ?_ ?hsz _); (case hsz => (first | omega | (simp; done) | (simp; omega) | (simp at *; omega)))) | ((with_reducible refine Below.setCell ?_ ?hsz _); (case hsz => (first | omega | (simp; done) | (simp; omega) | (simp at *; omega)))) | (with_reducible refine Below.drew ?_) | (with_reducible refine below_drewN ?_ _) | ((with_reducible refine Below.trans ?_ (Below.mono (by with_reducible assumption) ?hsz)); (case hsz => (first | omega | (simp; done) | (simp; omega) | (simp at *; omega)))))))⟩, (Below.refl _ _).alloc (Nat.le_refl _) _, hB.alloc hBz _⟩
      · have hf1 : 1 ≤ f := Nat.le_trans (by decide) hf.1
        have hB := hC (by omega)
        clear hf
        have hBz := hB.size
        obtain ⟨gl, s2, h10, hh, hP2⟩ : ∃ g s, u 10 = .slice (some ⟨g, 0, none⟩) 2 2 ∧ wx.heap[g]? = some (.cells #[.slice Au lu cu, s] 31 (0, 0)) ∧ Pipes wx W7.heap.size s L2 := (by first | exact hd | exact hd.1 | exact hd.2)
        rw [h10]
        have hP1 : Pipes wx b (.slice Au lu cu) L1 := hp.keep hB
        have hsrcs := twoPipes hh hP1 hP2
        go_wp2_with fail
        refine (concatPipe_any _ 2 _ _ wx hsrcs (by omega) (by simp; omega)).mono ?_
        rintro e wy ⟨r, rfl, hr, hby⟩
        have hr3 := catPipes hr
        go_wp2
        first | exact ⟨_, rfl, hr3.mono hBz, hby, fun _ => hB.trans (hby.mono hBz)⟩ | exact ⟨_, rfl, hr3.mono hBz, hby, hB.trans (hby.mono hBz)⟩
      · rw [show u 3 = _ from (by first | exact hd | exact hd.1 | exact hd.2 | exact hd.2.1 | exact hd.2.2 | exact hd.2.2.1 | exact hd.2.2.2 | exact hd.2.2.2.1 | exact hd.2.2.2.2)]
        have hf1 : 1 ≤ f := Nat.le_trans (by decide) hf.1
        have hB := hC (by omega)
        clear hf
        have hBz := hB.size
        have hP3 : Pipes wx W7.heap.size (u 11) (L1 ++ L2) := (by first | exact hd.1 | exact hd.2)
        obtain ⟨A3, c3, hv3, -, -, -, -⟩ := hP3.form
        obtain ⟨l3, hl3⟩ : ∃ l, (L1 ++ L2).length = l := ⟨_, rfl⟩
        rw [hl3] at hv3
        rw [hv3] at hP3 ⊢
        clear hl3 hv3 hd
        go_wp2
        first | exact ⟨_, rfl, ⟨_, rfl, hP3⟩, Below.refl _ _, fun _ => hB⟩ | exact ⟨_, rfl, ⟨_, rfl, hP3⟩, Below.refl _ _, hB⟩
      · have hf2 := hf.2
        have hB := hC (by omega)
        clear hf
        have hBz := hB.size
        obtain ⟨s9, h12, hP3⟩ : ∃ s9, u 12 = .agg #[.int .i64 N, s9] ∧ Pipes wx W7.heap.size s9 (L1 ++ L2) := (by first | exact hd | exact hd.1 | exact hd.2)
        obtain ⟨A3, c3, hv3, -, -, -, -⟩ := hP3.form
        obtain ⟨l3, hl3⟩ : ∃ l, (L1 ++ L2).length = l := ⟨_, rfl⟩
        rw [hl3] at hv3
        rw [hv3] at hP3 h12
        rw [h12]
        clear hl3 hv3 h12 hd
        have e6 := (hB.cell (p := ⟨w.heap.size + 1 + 1, 0, none⟩) h6).trans d60
        have e7 := (hB.cell (p := ⟨w.heap.size + 1 + 1, 1, none⟩) h6).trans d61
        have k6 := (hB.frozen (p := ⟨w.heap.size + 1 + 1, 0, none⟩) h6).trans f60
        have k7 := (hB.frozen (p := ⟨w.heap.size + 1 + 1, 1, none⟩) h6).trans f61
        have hgx : w.heap.size + 1 + 1 < wx.heap.size := by omega
        go_wp2
        exact ⟨undef, rfl, ⟨rfl, _, _, hB, hP3, rfl⟩, (if_pos rfl ▸ trivial : (if (13 : Nat) = 13 then True else _)), fun h => absurd h (by have := Nat.le_trans hf2 (by decide : _ ≤ 0); omega)⟩
    · intro u f wx hC hfin
      simp only [fillEnd, fillF, Act.put, List.setIfInBounds_toArray, List.set_cons_succ, List.set_cons_zero]
      obtain ⟨-, w9, s9, hb9, hP9, hw9⟩ := hfin 13 (by decide) (by decide)
      subst hw9
      clear hfin hC
      have hz9 := hb9.size
      have hb10 : Below w.heap.size w ((w9.setCell ⟨w.heap.size + 1 + 1, 0, none⟩ (.int .i64 N)).setCell ⟨w.heap.size + 1 + 1, 1, none⟩ s9) := ((hb7.trans (hb9.mono (by omega))).setCell (p := ⟨w.heap.size + 1 + 1, 0, none⟩) (by omega) _).setCell (p := ⟨w.heap.size + 1 + 1, 1, none⟩) (by omega) _
      obtain ⟨A9, c9, rfl, -, -, -, -⟩ := hP9.form
      have hP10 : Pipes ((w9.setCell ⟨w.heap.size + 1 + 1, 0, none⟩ (.int .i64 N)).setCell ⟨w.heap.size + 1 + 1, 1, none⟩ (.slice A9 (L1 ++ L2).length c9)) w.heap.size (.slice A9 (L1 ++ L2).length c9) (L1 ++ L2) := ((hP9.setLow (by omega)).setLow (by omega)).mono (by omega)
      have q6 := (hb9.cell (p := ⟨w.heap.size + 1 + 1, 0, none⟩) h6).trans d60
      have q7 := (hb9.cell (p := ⟨w.heap.size + 1 + 1, 1, none⟩) h6).trans d61
      obtain ⟨l9, hl9⟩ : ∃ l9, (L1 ++ L2).length = l9 := ⟨_, rfl⟩
      rw [hl9] at hP10 hb10 hP9 ⊢
      clear hP9 hb9 hl9
      have HF := Lib.hid (And.intro hP10 hb10)
      clear hP10 hb10
      go_wp2
      refine bodyPost_ret (v := .agg #[.int .i64 N, .slice A9 l9 c9]) (by simp [results, Try.results43, go_sem, q6, q7]) rfl ⟨_, rfl, HF.out.1, HF.out.2⟩
  | false =>
    obtain ⟨F, hF⟩ : ∃ F, N1 - 1 = F := ⟨_, rfl⟩
    obtain ⟨N, hN⟩ : ∃ N, joinN false N1 N2 = N := ⟨_, rfl⟩
    have hNv : N1 + N2 - 1 = N := by rw [← hN]; simp [joinN]
    obtain ⟨L1, hL1⟩ : ∃ L, L = ps.map (movedP 0 2 1) := ⟨_, rfl⟩
    obtain ⟨L2, hL2⟩ : ∃ L, L = qs.map (movedP 2 1 F) := ⟨_, rfl⟩
    have hJ : joinP false N1 ps qs = L1 ++ L2 := by rw [hL1, hL2, ← hF]; rfl
    have hll1 : L1.length = lu := by rw [hL1, List.length_map, hlu]
    have hll2 : L2.length = lv := by rw [hL2, List.length_map, hlv]
    rw [hN, hJ]
    have hk : kindI false = 1 := rfl
    rw [hk]
    have hF0 : 0 ≤ F := by omega
    have hF1 : F ≤ 100 := by omega
    have HLs1 := Lib.hid hL1
    have HLs2 := Lib.hid hL2
    have hp1k : ps.length ≤ 1000 := by omega
    have hq1k : qs.length ≤ 1000 := by omega
    clear hk hN hJ hlu hlv hL1 hL2
    go_enter Try.func43, Try.ntmps43
    go_wp2_with fail
    rw [← hW7]
    clear hW7
    refine wp_region_flowL 19 none [(0, 26), (1, 27), (2, 28), (3, 29), (4, 30), (5, 31), (6, 32), (7, 33), (8, 34), (9, 35), (10, 36), (11, 37), (12, 38), (13, 39), (14, 40), (15, 41), (16, 42), (17, 43)] (fun j x _ wx => jtV W7 w.heap.size (w.heap.size + 1) (w.heap.size + 1 + 1) N1 N2 F N (.slice Au lu cu) (.slice Av lv cv) L1 L2 j x wx) (fun i wx wy => if i = 18 then True else Below wx.heap.size wx wy) (fun f wx => 1 ≤ f → Below W7.heap.size W7 wx) (by kernel_rfl) (by kernel_rfl) rfl (fun _ => ⟨rfl, rfl, rfl, Nat.le_refl _, fun _ _ => rfl⟩) ?_ ?_ ?_ ?_
    · intro i k hi hk hal x u wa wb hR hV
      have hk' : k < 19 := hk
      have hi' : i < 19 := hi
      by_cases nn : k = 18
      · subst nn
        exfalso
        rcases i with _ | _ | _ | _ | _ | _ | _ | _ | _ | _ | _ | _ | _ | _ | _ | _ | _ | _ | _ | i
        all_goals (first | omega | (revert hal; decide))
      · by_cases ii : i = 18
        · subst ii
          rcases k with _ | _ | _ | _ | _ | _ | _ | _ | _ | _ | _ | _ | _ | _ | _ | _ | _ | _ | _ | k
          all_goals first | exact hV | (exfalso; revert hal; decide) | (exfalso; omega)
        · have hbb : Below wa.heap.size wa wb := by simpa [ii] using hR
          rcases k with _ | _ | _ | _ | _ | _ | _ | _ | _ | _ | _ | _ | _ | _ | _ | _ | _ | _ | _ | k
          all_goals first
            | exact hV
            | (exfalso; omega)
            | exact Pipes.keep hV hbb
            | (obtain ⟨s, h1, h2⟩ := hV; exact ⟨s, h1, h2.keep hbb⟩)
            | (obtain ⟨g, s, h1, h2, h3⟩ := hV; exact ⟨g, s, h1, heap_keep h2 hbb, h3.keep hbb⟩)
            | (obtain ⟨g, s, s', h1, h2, h3, h4⟩ := hV; exact ⟨g, s, s', h1, heap_keep h2 hbb, h3.keep hbb, h4.keep hbb⟩)
    · exact fun _ _ _ _ _ _ _ h => h
    · simp (maxSteps := 4000000) only [eachOp, fillF, List.setIfInBounds_toArray, List.set_cons_succ, List.set_cons_zero]
      refine ⟨?_, ?_, ?_, ?_, ?_, ?_, ?_, ?_, ?_, ?_, ?_, ?_, ?_, ?_, ?_, ?_, ?_, ?_, ?_, trivial⟩ <;> intro u f wx hC hd hf <;> (try simp [allV, useOf, Region.binds] at hd)
      · have hf1 : 1 ≤ f := Nat.le_trans (by decide) hf.1
        have hB := hC (by omega)
        clear hf
        have hBz := hB.size
        go_wp2
        first | exact ⟨_, rfl, rfl, Below.refl _ _, fun _ => hB⟩ | exact ⟨_, rfl, rfl, Below.refl _ _, hB⟩
      · rw [show u 0 = _ from (by first | exact hd | exact hd.1 | exact hd.2 | exact hd.2.1 | exact hd.2.2 | exact hd.2.2.1 | exact hd.2.2.2 | exact hd.2.2.2.1 | exact hd.2.2.2.2)]
        have hf1 : 1 ≤ f := Nat.le_trans (by decide) hf.1
        have hB := hC (by omega)
        clear hf
        have hBz := hB.size
        have e0 := (hB.cell (p := ⟨w.heap.size, 0, none⟩) h4).trans d40
        go_wp2
        first | exact ⟨_, rfl, rfl, Below.refl _ _, fun _ => hB⟩ | exact ⟨_, rfl, rfl, Below.refl _ _, hB⟩
      · have hf1 : 1 ≤ f := Nat.le_trans (by decide) hf.1
        have hB := hC (by omega)
        clear hf
        have hBz := hB.size
        go_wp2
        first | exact ⟨_, rfl, rfl, Below.refl _ _, fun _ => hB⟩ | exact ⟨_, rfl, rfl, Below.refl _ _, hB⟩
      · rw [show u 2 = _ from (by first | exact hd | exact hd.1 | exact hd.2 | exact hd.2.1 | exact hd.2.2 | exact hd.2.2.1 | exact hd.2.2.2 | exact hd.2.2.2.1 | exact hd.2.2.2.2)]
        have hf1 : 1 ≤ f := Nat.le_trans (by decide) hf.1
        have hB := hC (by omega)
        clear hf
        have hBz := hB.size
        have e0 := (hB.cell (p := ⟨w.heap.size + 1, 0, none⟩) h5).trans d50
        go_wp2
        first | exact ⟨_, rfl, rfl, Below.refl _ _, fun _ => hB⟩ | exact ⟨_, rfl, rfl, Below.refl _ _, hB⟩
      · rw [show u 1 = _ from (by first | exact hd | exact hd.1 | exact hd.2 | exact hd.2.1 | exact hd.2.2 | exact hd.2.2.1 | exact hd.2.2.2 | exact hd.2.2.2.1 | exact hd.2.2.2.2), show u 3 = _ from (by first | exact hd | exact hd.1 | exact hd.2 | exact hd.2.1 | exact hd.2.2 | exact hd.2.2.1 | exact hd.2.2.2 | exact hd.2.2.2.1 | exact hd.2.2.2.2)]
        have hf1 : 1 ≤ f := Nat.le_trans (by decide) hf.1
        have hB := hC (by omega)
        clear hf
        have hBz := hB.size
        have hw : IntKind.i64.wrap (N1 + N2) = N1 + N2 := by rw [IntWalk.i64_in _ (by omega)]
        go_wp2
        first | exact ⟨_, rfl, rfl, Below.refl _ _, fun _ => hB⟩ | exact ⟨_, rfl, rfl, Below.refl _ _, hB⟩
      · rw [show u 4 = _ from (by first | exact hd | exact hd.1 | exact hd.2 | exact hd.2.1 | exact hd.2.2 | exact hd.2.2.1 | exact hd.2.2.2 | exact hd.2.2.2.1 | exact hd.2.2.2.2)]
        have hf1 : 1 ≤ f := Nat.le_trans (by decide) hf.1
        have hB := hC (by omega)
        clear hf
        have hBz := hB.size
        have hw : IntKind.i64.wrap (N1 + N2 - 1) = N := by rw [IntWalk.i64_in _ (by omega)]; omega
        go_wp2
        first | exact ⟨_, rfl, rfl, Below.refl _ _, fun _ => hB⟩ | exact ⟨_, rfl, rfl, Below.refl _ _, hB⟩
      · have hf1 : 1 ≤ f := Nat.le_trans (by decide) hf.1
        have hB := hC (by omega)
        clear hf
        have hBz := hB.size
        go_wp2
        first | exact ⟨_, rfl, rfl, Below.refl _ _, fun _ => hB⟩ | exact ⟨_, rfl, rfl, Below.refl _ _, hB⟩
      · rw [show u 6 = _ from (by first | exact hd | exact hd.1 | exact hd.2 | exact hd.2.1 | exact hd.2.2 | exact hd.2.2.1 | exact hd.2.2.2 | exact hd.2.2.2.1 | exact hd.2.2.2.2)]
        have hf1 : 1 ≤ f := Nat.le_trans (by decide) hf.1
        have hB := hC (by omega)
        clear hf
        have hBz := hB.size
        have e0 := (hB.cell (p := ⟨w.heap.size, 1, none⟩) h4).trans d41
        go_wp2
        first | exact ⟨_, rfl, rfl, Below.refl _ _, fun _ => hB⟩ | exact ⟨_, rfl, rfl, Below.refl _ _, hB⟩
      · rw [show u 7 = _ from (by first | exact hd | exact hd.1 | exact hd.2 | exact hd.2.1 | exact hd.2.2 | exact hd.2.2.1 | exact hd.2.2.2 | exact hd.2.2.2.1 | exact hd.2.2.2.2)]
        have hf1 : 1 ≤ f := Nat.le_trans (by decide) hf.1
        have hB := hC (by omega)
        clear hf
        have hBz := hB.size
        go_wp2_with fail
        refine (movedPipes_any _ ps 0 2 1 _ wx (hp.keep hB) (by omega) hbp (by omega) (by omega)).mono ?_
        rintro e wy ⟨r, rfl, hr, hby⟩
        rw [← HLs1.out] at hr
        go_wp2
        first | exact ⟨_, rfl, hr.mono hBz, hby, fun _ => hB.trans (hby.mono hBz)⟩ | exact ⟨_, rfl, hr.mono hBz, hby, hB.trans (hby.mono hBz)⟩
      · have hf1 : 1 ≤ f := Nat.le_trans (by decide) hf.1
        have hB := hC (by omega)
        clear hf
        have hBz := hB.size
        go_wp2
        first | exact ⟨_, rfl, rfl, Below.refl _ _, fun _ => hB⟩ | exact ⟨_, rfl, rfl, Below.refl _ _, hB⟩
      · rw [show u 9 = _ from (by first | exact hd | exact hd.1 | exact hd.2 | exact hd.2.1 | exact hd.2.2 | exact hd.2.2.1 | exact hd.2.2.2 | exact hd.2.2.2.1 | exact hd.2.2.2.2)]
        have hf1 : 1 ≤ f := Nat.le_trans (by decide) hf.1
        have hB := hC (by omega)
        clear hf
        have hBz := hB.size
        have e0 := (hB.cell (p := ⟨w.heap.size + 1, 1, none⟩) h5).trans d51
        go_wp2
        first | exact ⟨_, rfl, rfl, Below.refl _ _, fun _ => hB⟩ | exact ⟨_, rfl, rfl, Below.refl _ _, hB⟩
      · have hf1 : 1 ≤ f := Nat.le_trans (by decide) hf.1
        have hB := hC (by omega)
        clear hf
        have hBz := hB.size
        go_wp2
        first | exact ⟨_, rfl, rfl, Below.refl _ _, fun _ => hB⟩ | exact ⟨_, rfl, rfl, Below.refl _ _, hB⟩
      · rw [show u 11 = _ from (by first | exact hd | exact hd.1 | exact hd.2 | exact hd.2.1 | exact hd.2.2 | exact hd.2.2.1 | exact hd.2.2.2 | exact hd.2.2.2.1 | exact hd.2.2.2.2)]
        have hf1 : 1 ≤ f := Nat.le_trans (by decide) hf.1
        have hB := hC (by omega)
        clear hf
        have hBz := hB.size
        have e0 := (hB.cell (p := ⟨w.heap.size, 0, none⟩) h4).trans d40
        go_wp2
        first | exact ⟨_, rfl, rfl, Below.refl _ _, fun _ => hB⟩ | exact ⟨_, rfl, rfl, Below.refl _ _, hB⟩
      · rw [show u 12 = _ from (by first | exact hd | exact hd.1 | exact hd.2 | exact hd.2.1 | exact hd.2.2 | exact hd.2.2.1 | exact hd.2.2.2 | exact hd.2.2.2.1 | exact hd.2.2.2.2)]
        have hf1 : 1 ≤ f := Nat.le_trans (by decide) hf.1
        have hB := hC (by omega)
        clear hf
        have hBz := hB.size
        have hw : IntKind.i64.wrap (N1 - 1) = F := by rw [IntWalk.i64_in _ (by omega)]; omega
        go_wp2
        first | exact ⟨_, rfl, rfl, Below.refl _ _, fun _ => hB⟩ | exact ⟨_, rfl, rfl, Below.refl _ _, hB⟩
      · rw [show u 10 = _ from (by first | exact hd | exact hd.1 | exact hd.2 | exact hd.2.1 | exact hd.2.2 | exact hd.2.2.1 | exact hd.2.2.2 | exact hd.2.2.2.1 | exact hd.2.2.2.2), show u 13 = _ from (by first | exact hd | exact hd.1 | exact hd.2 | exact hd.2.1 | exact hd.2.2 | exact hd.2.2.1 | exact hd.2.2.2 | exact hd.2.2.2.1 | exact hd.2.2.2.2)]
        have hf1 : 1 ≤ f := Nat.le_trans (by decide) hf.1
        have hB := hC (by omega)
        clear hf
        have hBz := hB.size
        go_wp2_with fail
        refine (movedPipes_any _ qs 2 1 F _ wx (hq.keep hB) (by omega) hbq (by omega) (by omega)).mono ?_
        rintro e wy ⟨r, rfl, hr, hby⟩
        rw [← HLs2.out] at hr
        go_wp2
        first | exact ⟨_, rfl, hr.mono hBz, hby, fun _ => hB.trans (hby.mono hBz)⟩ | exact ⟨_, rfl, hr.mono hBz, hby, hB.trans (hby.mono hBz)⟩
      · have hf1 : 1 ≤ f := Nat.le_trans (by decide) hf.1
        have hB := hC (by omega)
        clear hf
        have hBz := hB.size
        have hP1 : Pipes wx W7.heap.size (u 8) L1 := (by first | exact hd.1 | exact hd.2)
        have hP2 : Pipes wx W7.heap.size (u 14) L2 := (by first | exact hd.1 | exact hd.2)
        obtain ⟨A1', c1', hv1, -, -, -, -⟩ := hP1.form
        obtain ⟨A2, c2, hv2, -, -, -, -⟩ := hP2.form
        rw [hll1] at hv1
        rw [hll2] at hv2
        rw [hv1] at hP1 ⊢
        rw [hv2] at hP2 ⊢
        clear hv1 hv2 hd
        go_wp2
        first | exact ⟨_, rfl, ⟨_, _, _, rfl, heap_alloc_new _ _, hP1.keep (by (repeat (first | (with_reducible assumption) | (with_reducible exact Below.refl _ _) | ((with_reducible refine Below.alloc ?_ ?hsz _); (case hsz => (first | omega | (simp; done) | (simp; omega) | (simp at *; omega)))) | ((with_reducible refine Below.setCell ?_ ?hsz _); (case hsz => (first | omega | (simp; done) | (simp; omega) | (simp at *; omega)))) | (with_reducible refine Below.drew ?_) | (with_reducible refine below_drewN ?_ _) | ((with_reducible refine Below.trans ?_ (Below.mono (by with_reducible assumption) ?hsz)); (case hsz => (first | omega | (simp; done) | (simp; omega) | (simp at *; omega))))))), hP2.keep (by (repeat (first | (with_reducible assumption) | (with_reducible exact Below.refl _ _) | ((with_reducible refine Below.alloc ?_ ?hsz _); (case hsz => (first | omega | (simp; done) | (simp; omega) | (simp at *; omega)))) | ((with_reducible refine Below.setCell ?_ ?hsz _); (case hsz => (first | omega | (simp; done) | (simp; omega) | (simp at *; omega)))) | (with_reducible refine Below.drew ?_) | (with_reducible refine below_drewN ?_ _) | ((with_reducible refine Below.trans ?_ (Below.mono (by with_reducible assumption) ?hsz)); (case hsz => (first | omega | (simp; done) | (simp; omega) | (simp at *; omega)))))))⟩, (Below.refl _ _).alloc (Nat.le_refl _) _, fun _ => hB.alloc hBz _⟩ | exact ⟨_, rfl, ⟨_, _, _, rfl, heap_alloc_new _ _, hP1.keep (by (repeat (first | (with_reducible assumption) | (with_reducible exact Below.refl _ _) | ((with_reducible refine Below.alloc ?_ ?hsz _); (case hsz => (first | omega | (simp; done) | (simp; omega) | (simp at *; omega)))) | ((with_reducible refine Below.setCell ?_ ?hsz _); (case hsz => (first | omega | (simp; done) | (simp; omega) | (simp at *; omega)))) | (with_reducible refine Below.drew ?_) | (with_reducible refine below_drewN ?_ _) | ((with_reducible refine Below.trans ?_ (Below.mono (by with_reducible assumption) ?hsz)); (case hsz => (first | omega | (simp; done) | (simp; omega) | (simp at *; omega))))))), hP2.keep (by (repeat (first | (with_reducible assumption) | (with_reducible exact Below.refl _ _) | ((with_reducible refine Below.alloc ?_ ?hsz _); (case hsz => (first | omega | (simp; done) | (simp; omega) | (simp at *; omega)))) | ((with_reducible refine Below.setCell ?_ ?hsz _); (case hsz => (first | omega | (simp; done) | (simp; omega) | (simp at *; omega)))) | (with_reducible refine Below.drew ?_) | (with_reducible refine below_drewN ?_ _) | ((with_reducible refine Below.trans ?_ (Below.mono (by with_reducible assumption) ?hsz)); (case hsz => (first | omega | (simp; done) | (simp; omega) | (simp at *; omega)))))))⟩, (Below.refl _ _).alloc (Nat.le_refl _) _, hB.alloc hBz _⟩
      · have hf1 : 1 ≤ f := Nat.le_trans (by decide) hf.1
        have hB := hC (by omega)
        clear hf
        have hBz := hB.size
        obtain ⟨gl, s1, s2, h10, hh, hP1, hP2⟩ : ∃ g s s', u 15 = .slice (some ⟨g, 0, none⟩) 2 2 ∧ wx.heap[g]? = some (.cells #[s, s'] 31 (0, 0)) ∧ Pipes wx W7.heap.size s L1 ∧ Pipes wx W7.heap.size s' L2 := (by first | exact hd | exact hd.1 | exact hd.2)
        rw [h10]
        have hsrcs := twoPipes hh hP1 hP2
        go_wp2_with fail
        refine (concatPipe_any _ 2 _ _ wx hsrcs (by omega) (by simp; omega)).mono ?_
        rintro e wy ⟨r, rfl, hr, hby⟩
        have hr3 := catPipes hr
        go_wp2
        first | exact ⟨_, rfl, hr3.mono hBz, hby, fun _ => hB.trans (hby.mono hBz)⟩ | exact ⟨_, rfl, hr3.mono hBz, hby, hB.trans (hby.mono hBz)⟩
      · rw [show u 5 = _ from (by first | exact hd | exact hd.1 | exact hd.2 | exact hd.2.1 | exact hd.2.2 | exact hd.2.2.1 | exact hd.2.2.2 | exact hd.2.2.2.1 | exact hd.2.2.2.2)]
        have hf1 : 1 ≤ f := Nat.le_trans (by decide) hf.1
        have hB := hC (by omega)
        clear hf
        have hBz := hB.size
        have hP3 : Pipes wx W7.heap.size (u 16) (L1 ++ L2) := (by first | exact hd.1 | exact hd.2)
        obtain ⟨A3, c3, hv3, -, -, -, -⟩ := hP3.form
        obtain ⟨l3, hl3⟩ : ∃ l, (L1 ++ L2).length = l := ⟨_, rfl⟩
        rw [hl3] at hv3
        rw [hv3] at hP3 ⊢
        clear hl3 hv3 hd
        go_wp2
        first | exact ⟨_, rfl, ⟨_, rfl, hP3⟩, Below.refl _ _, fun _ => hB⟩ | exact ⟨_, rfl, ⟨_, rfl, hP3⟩, Below.refl _ _, hB⟩
      · have hf2 := hf.2
        have hB := hC (by omega)
        clear hf
        have hBz := hB.size
        obtain ⟨s9, h12, hP3⟩ : ∃ s9, u 17 = .agg #[.int .i64 N, s9] ∧ Pipes wx W7.heap.size s9 (L1 ++ L2) := (by first | exact hd | exact hd.1 | exact hd.2)
        obtain ⟨A3, c3, hv3, -, -, -, -⟩ := hP3.form
        obtain ⟨l3, hl3⟩ : ∃ l, (L1 ++ L2).length = l := ⟨_, rfl⟩
        rw [hl3] at hv3
        rw [hv3] at hP3 h12
        rw [h12]
        clear hl3 hv3 h12 hd
        have e6 := (hB.cell (p := ⟨w.heap.size + 1 + 1, 0, none⟩) h6).trans d60
        have e7 := (hB.cell (p := ⟨w.heap.size + 1 + 1, 1, none⟩) h6).trans d61
        have k6 := (hB.frozen (p := ⟨w.heap.size + 1 + 1, 0, none⟩) h6).trans f60
        have k7 := (hB.frozen (p := ⟨w.heap.size + 1 + 1, 1, none⟩) h6).trans f61
        have hgx : w.heap.size + 1 + 1 < wx.heap.size := by omega
        go_wp2
        exact ⟨undef, rfl, ⟨rfl, _, _, hB, hP3, rfl⟩, (if_pos rfl ▸ trivial : (if (18 : Nat) = 18 then True else _)), fun h => absurd h (by have := Nat.le_trans hf2 (by decide : _ ≤ 0); omega)⟩
    · intro u f wx hC hfin
      simp only [fillEnd, fillF, Act.put, List.setIfInBounds_toArray, List.set_cons_succ, List.set_cons_zero]
      obtain ⟨-, w9, s9, hb9, hP9, hw9⟩ := hfin 18 (by decide) (by decide)
      subst hw9
      clear hfin hC
      have hz9 := hb9.size
      have hb10 : Below w.heap.size w ((w9.setCell ⟨w.heap.size + 1 + 1, 0, none⟩ (.int .i64 N)).setCell ⟨w.heap.size + 1 + 1, 1, none⟩ s9) := ((hb7.trans (hb9.mono (by omega))).setCell (p := ⟨w.heap.size + 1 + 1, 0, none⟩) (by omega) _).setCell (p := ⟨w.heap.size + 1 + 1, 1, none⟩) (by omega) _
      obtain ⟨A9, c9, rfl, -, -, -, -⟩ := hP9.form
      have hP10 : Pipes ((w9.setCell ⟨w.heap.size + 1 + 1, 0, none⟩ (.int .i64 N)).setCell ⟨w.heap.size + 1 + 1, 1, none⟩ (.slice A9 (L1 ++ L2).length c9)) w.heap.size (.slice A9 (L1 ++ L2).length c9) (L1 ++ L2) := ((hP9.setLow (by omega)).setLow (by omega)).mono (by omega)
      have q6 := (hb9.cell (p := ⟨w.heap.size + 1 + 1, 0, none⟩) h6).trans d60
      have q7 := (hb9.cell (p := ⟨w.heap.size + 1 + 1, 1, none⟩) h6).trans d61
      obtain ⟨l9, hl9⟩ : ∃ l9, (L1 ++ L2).length = l9 := ⟨_, rfl⟩
      rw [hl9] at hP10 hb10 hP9 ⊢
      clear hP9 hb9 hl9
      have HF := Lib.hid (And.intro hP10 hb10)
      clear hP10 hb10
      go_wp2
      refine bodyPost_ret (v := .agg #[.int .i64 N, .slice A9 l9 c9]) (by simp [results, Try.results43, go_sem, q6, q7]) rfl ⟨_, rfl, HF.out.1, HF.out.2⟩

end Go.Proofs.Ytnefafpfeagflaa
