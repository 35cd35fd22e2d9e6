/- Plain facts. -/
import Derived.Test.YtobbeofibkpbaaaGZ31
import Derived.Test.YtobbeofibkpbaaaGZ36
import Derived.Test.YtobbeofibkpbaaaGZ57
import Derived.Test.YtobbeofibkpbaaaGZ23
import Derived.Deep.DeepCutAuto
import Derived.Test.YtobbeofibkpbaaaGZ54
import Derived.Test.YtobbeofibkpbaaaGZ50
import Derived.Test.YtobbeofibkpbaaaGZ53
/- Contracts of the functions of chapters 5 and 10 in the program: pushes from what gives too much to what lacks, CirculationOf, FeedingOf. -/
namespace Go.Proofs.Ytobbeofibkpbaaa
open Go.RowKit

set_option maxHeartbeats 4000000 in
set_option maxRecDepth 20000 in
theorem leastAmounts_any (v : Value) (ps : List Pp) (b : Nat) (w : World) (hp : Pipes w b v ps) (hl7 : ps.length ≤ 7) :
    Calls Try.prog 92 #[v] w fun e w' => ∃ r, e = .returned r ∧ Ints w' w.heap.size r (leastL ps) ∧ Below w.heap.size w w' := by
  have hp0 := hp
  obtain ⟨A, c, rfl, hcp1, hcp2, -, hcell⟩ := hp.form
  unfold maxLen at hcp2
  have hmk := fun W => run_make_ints (n := ps.length) (by omega) W
  have hmade : Row (w.alloc (.cells (madeCells #[.int .i64 0] ps.length) 3)) w.heap.size w.heap.size ps.length ps.length (List.replicate ps.length 0) := ⟨made_ints w ps.length 3 w.heap.size (Nat.le_refl _) (by omega), by unfold small; omega⟩
  have HM := Lib.hid hmade
  clear hmade
  have hB0 : Below w.heap.size w (w.alloc (.cells (madeCells #[.int .i64 0] ps.length) 3)) := by (repeat (first | (with_reducible assumption) | (with_reducible exact Below.refl _ _) | ((with_reducible refine Below.alloc ?_ ?hsz _); (case hsz => (first | omega | (simp; done) | (simp; omega) | (simp at *; omega)))) | ((with_reducible refine Below.setCell ?_ ?hsz _); (case hsz => (first | omega | (simp; done) | (simp; omega) | (simp at *; omega)))) | (with_reducible refine Below.drew ?_) | (with_reducible refine below_drewN ?_ _) | ((with_reducible refine Below.trans ?_ (Below.mono (by with_reducible assumption) ?hsz)); (case hsz => (first | omega | (simp; done) | (simp; omega) | (simp at *; omega))))))
  go_enter Try.func92, Try.ntmps92
  go_wp2_with fail
  go_loopw [11] (fun i wr => ∃ (k : Nat) (qs : List Int), k ≤ ps.length ∧ i = .int .i64 k ∧ Row wr w.heap.size w.heap.size ps.length ps.length qs ∧ qs.take k = (leastL ps).take k ∧ Below w.heap.size w wr) (fun i _ => ps.length - (intOf i).toNat)
  case atStart => exact ⟨0, _, by omega, rfl, HM.out, by simp, hB0⟩
  case round =>
    obtain ⟨k, qs, hk, rfl, hR, hq, hb⟩ := hrel
    have hzb := hb.size
    have hql := hR.len
    by_cases hlt : k < ps.length
    · obtain ⟨g, rfl, hg1, hg2, c0, c1, c2, c3, c4⟩ := hcell wr hb k hlt
      obtain ⟨y0, y1⟩ := hR.at' k hlt
      have hglr := hR.lt
      have hR2 := (hR.set k ps[k].le).keep ((Below.refl _ _).alloc (Nat.le_refl _) (.cells #[.int .i64 ps[k].fr, .int .i64 ps[k].to, .int .i64 ps[k].le, .int .i64 ps[k].mo, .int .i64 ps[k].co] 45))
      have Hq : Hid ((qs.set k ps[k].le).take (k + 1) = (leastL ps).take (k + 1)) := Lib.hid (set_take (by omega) hq (by simp [leastL, List.getElem?_eq_getElem hlt]))
      have HR2 := Lib.hid hR2
      have Hql := Lib.hid hql
      clear hR2 hq hR hql
      generalize qs.getD k 0 = old at *
      go_wp2
      go_roundw
      case rel => exact ⟨k + 1, _, by omega, by go_num, HR2.out, Hq.out, by (repeat (first | (with_reducible assumption) | (with_reducible exact Below.refl _ _) | ((with_reducible refine Below.alloc ?_ ?hsz _); (case hsz => (first | omega | (simp; done) | (simp; omega) | (simp at *; omega)))) | ((with_reducible refine Below.setCell ?_ ?hsz _); (case hsz => (first | omega | (simp; done) | (simp; omega) | (simp at *; omega)))) | (with_reducible refine Below.drew ?_) | (with_reducible refine below_drewN ?_ _) | ((with_reducible refine Below.trans ?_ (Below.mono (by with_reducible assumption) ?hsz)); (case hsz => (first | omega | (simp; done) | (simp; omega) | (simp at *; omega))))))⟩
      case measure => simp [intOf]; omega
    · have hkk : k = ps.length := by omega
      subst hkk
      have hqq : qs = leastL ps := by
        rw [List.take_of_length_le (by omega), List.take_of_length_le (by simp [leastL])] at hq
        exact hq
      subst hqq
      have hI := hR.ints
      go_wp2
      go_ret
      exact ⟨_, rfl, hI, hb⟩

theorem find_congr' {L : List Nat} {f g : Nat → Bool} (h : ∀ k ∈ L, f k = g k) : L.find? f = L.find? g := by
  induction L with
  | nil => rfl
  | cons x L ih => simp only [List.find?_cons]; rw [h x (by simp), ih (fun k hk => h k (by simp [hk]))]
theorem overL_first {n : Int} {nd : List Int} (ps : List Pp) (xs : List Int) (h : (nd.length : Int) = n) : firstP (overL nd ps xs) = overO n nd ps xs := by
  have e : n.toNat = nd.length := by omega
  unfold firstP overO
  rw [overL_len, e]
  refine find_congr' fun k hk => ?_
  rw [overL_get ps xs (List.mem_range.1 hk)]
  rfl
def negF (os : List Int) (k : Nat) : Bool := decide (os.getD k 0 < 0)
theorem overL_neg {n : Int} {nd : List Int} (ps : List Pp) (xs : List Int) (h : (nd.length : Int) = n) : (List.range n.toNat).filter (negF (overL nd ps xs)) = (List.range n.toNat).filter (lessD nd ps xs) := by
  have e : n.toNat = nd.length := by omega
  refine List.filter_congr fun k hk => ?_
  rw [e] at hk
  unfold negF lessD
  rw [overL_get ps xs (List.mem_range.1 hk)]

set_option maxHeartbeats 400000 in
set_option maxRecDepth 20000 in
theorem firstFn_any (x : Int) (w : World) : Calls Try.prog 168 #[.int .i64 x] w fun e w' => e = .returned (.bool (decide (0 < x))) ∧ w = w' := by
  go_enter Try.func168, Try.ntmps168
  go_wp2
  go_ret
  exact ⟨rfl, rfl⟩

set_option maxHeartbeats 1000000 in
set_option maxRecDepth 20000 in
theorem indexFirst_any (u : Value) (xs : List Int) (b : Nat) (w : World) (hx : Ints w b u xs) :
    Calls Try.prog 121 #[u, .func (Fn.func 168) #[] #[]] w fun e w' => ∃ r : Int, e = .returned (.int .i64 r) ∧ ((r = -1 ∧ firstP xs = none) ∨ ∃ q : Nat, r = (q : Int) ∧ firstP xs = some q) ∧ Below w.heap.size w w' := by
  obtain ⟨A0, c0, rfl, hc1, hc2, hs, hcell⟩ := hx.form
  unfold maxLen at hc2
  go_enter Try.func121, Try.ntmps121
  go_wp2
  go_loopw [8] (fun i wr => ∃ k : Nat, k ≤ xs.length ∧ i = .int .i64 k ∧ (∀ i, i < k → decide (0 < xs.getD i 0) = false) ∧ Below w.heap.size w wr) (fun i _ => xs.length - (intOf i).toNat)
  case atStart => exact ⟨0, by omega, rfl, fun i hi => absurd hi (by omega), Below.refl _ _⟩
  case round =>
    obtain ⟨k, hk, rfl, hall, hb⟩ := hrel
    have Hall := Lib.hid hall
    clear hall
    have hzb := hb.size
    by_cases hlt : k < xs.length
    · obtain ⟨g, rfl, hg1, hg2, cx, -⟩ := hcell wr hb k hlt
      have HG := Lib.hid (getD_at hlt)
      generalize xs[k] = y at *
      by_cases hy : 0 < y
      · have hyd : decide (0 < y) = true := decide_eq_true hy
        have Hf : Hid (firstP xs = some k) := Lib.hid (range_find.2 ⟨hlt, by rw [HG.out]; exact hyd, Hall.out⟩)
        clear hy
        go_wp2_with fail
        refine (firstFn_any y _).mono ?_
        rintro e w1 ⟨rfl, rfl⟩
        rw [hyd]
        go_wp2
        go_ret
        exact ⟨_, rfl, .inr ⟨k, rfl, Hf.out⟩, by (repeat (first | (with_reducible assumption) | (with_reducible exact Below.refl _ _) | ((with_reducible refine Below.alloc ?_ ?hsz _); (case hsz => (first | omega | (simp; done) | (simp; omega) | (simp at *; omega)))) | ((with_reducible refine Below.setCell ?_ ?hsz _); (case hsz => (first | omega | (simp; done) | (simp; omega) | (simp at *; omega)))) | (with_reducible refine Below.drew ?_) | (with_reducible refine below_drewN ?_ _) | ((with_reducible refine Below.trans ?_ (Below.mono (by with_reducible assumption) ?hsz)); (case hsz => (first | omega | (simp; done) | (simp; omega) | (simp at *; omega))))))⟩
      · have hyd : decide (0 < y) = false := decide_eq_false hy
        have Hn := Lib.hid (show ∀ i, i < k + 1 → decide (0 < xs.getD i 0) = false by
          intro i hi
          rcases Nat.lt_succ_iff_lt_or_eq.1 hi with h | h
          · exact Hall.out i h
          · subst h; rw [HG.out]; exact hyd)
        clear hy
        go_wp2_with fail
        refine (firstFn_any y _).mono ?_
        rintro e w1 ⟨rfl, rfl⟩
        rw [hyd]
        go_wp2
        go_roundw
        case rel => exact ⟨k + 1, by omega, by go_num, Hn.out, by (repeat (first | (with_reducible assumption) | (with_reducible exact Below.refl _ _) | ((with_reducible refine Below.alloc ?_ ?hsz _); (case hsz => (first | omega | (simp; done) | (simp; omega) | (simp at *; omega)))) | ((with_reducible refine Below.setCell ?_ ?hsz _); (case hsz => (first | omega | (simp; done) | (simp; omega) | (simp at *; omega)))) | (with_reducible refine Below.drew ?_) | (with_reducible refine below_drewN ?_ _) | ((with_reducible refine Below.trans ?_ (Below.mono (by with_reducible assumption) ?hsz)); (case hsz => (first | omega | (simp; done) | (simp; omega) | (simp at *; omega))))))⟩
        case measure => first | (simp [intOf]; done) | (simp [intOf]; omega)
    · have Hf : Hid (firstP xs = none) := Lib.hid (range_none.2 fun i hi => Hall.out i (by omega))
      go_wp2
      go_ret
      exact ⟨_, rfl, .inl ⟨rfl, Hf.out⟩, hb⟩

set_option maxHeartbeats 1000000 in
set_option maxRecDepth 20000 in
theorem negFn_any (k bo : Nat) (o : Value) (os : List Int) (b2 : Nat) (w : World) (ho : Ints w b2 o os) (hk : k < os.length) (d0 : w.cell? ⟨bo, 0, none⟩ = some o) :
    Calls Try.prog 169 #[.int .i64 k, .pointer (some ⟨bo, 0, none⟩)] w fun e w' => e = .returned (.bool (negF os k)) ∧ Below w.heap.size w w' := by
  obtain ⟨A0, c0, rfl, hc1, hc2, hs, hcell⟩ := ho.form
  unfold maxLen at hc2
  obtain ⟨g, rfl, hg1, hg2, cx, -⟩ := hcell w (Below.refl _ _) k hk
  have HN : Hid (negF os k = decide (os[k] < 0)) := Lib.hid (by rw [negF, getD_at hk])
  generalize os[k] = y at *
  go_enter Try.func169, Try.ntmps169
  go_wp2
  go_ret
  exact ⟨ret_bool HN.out.symm, by (repeat (first | (with_reducible assumption) | (with_reducible exact Below.refl _ _) | ((with_reducible refine Below.alloc ?_ ?hsz _); (case hsz => (first | omega | (simp; done) | (simp; omega) | (simp at *; omega)))) | ((with_reducible refine Below.setCell ?_ ?hsz _); (case hsz => (first | omega | (simp; done) | (simp; omega) | (simp at *; omega)))) | (with_reducible refine Below.drew ?_) | (with_reducible refine below_drewN ?_ _) | ((with_reducible refine Below.trans ?_ (Below.mono (by with_reducible assumption) ?hsz)); (case hsz => (first | omega | (simp; done) | (simp; omega) | (simp at *; omega))))))⟩

set_option maxHeartbeats 1000000 in
set_option maxRecDepth 20000 in
theorem negWhere_any (cnt bo : Nat) (o : Value) (os : List Int) (b2 : Nat) (w : World) (ho : Ints w b2 o os) (hco : cnt = os.length) (hcnt : cnt ≤ 5) (lo : bo < w.heap.size) (d0 : w.cell? ⟨bo, 0, none⟩ = some o) :
    Calls Try.prog 71 #[.int .i64 cnt, .func (Fn.func 169) #[] #[.pointer (some ⟨bo, 0, none⟩)]] w fun e w' => ∃ r, e = .returned r ∧ Ints w' w.heap.size r (numW cnt (negF os)) ∧ Below w.heap.size w w' := by
  have HC := Lib.hid hco
  clear hco
  go_enter Try.func71, Try.ntmps71
  go_wp2
  obtain ⟨i0, hi0, hz0, hz1, hz2⟩ := info_parts int_info
  go_loopw [8, 5] (fun i t wr => ∃ (k j k1 : Nat) (A1 : Option Addr), k ≤ cnt ∧ i = .int .i64 k ∧ t = .slice A1 j k1 ∧ (numW k (negF os)).length = j ∧
      wr.ownsRow w.heap.size 3 1 (.slice A1 j k1) j ((numW k (negF os)).map (Value.int .i64)) ∧ Below w.heap.size w wr) (fun i _ _ => cnt - (intOf i).toNat)
  case atStart => exact ⟨0, 0, 0, none, by omega, rfl, rfl, rfl, World.ownsRow_nil _ _ _ 1, Below.refl _ _⟩
  case round =>
    obtain ⟨k, j, k1, A1, hk, rfl, rfl, hj, hown, hb⟩ := hrel
    have hjk : j ≤ k := by rw [← hj]; exact numW_len k _
    have HJ := Lib.hid hj
    clear hj
    obtain ⟨hcr, hfr, hzr⟩ := bcell hb
    by_cases hlt : k < cnt
    · by_cases hf : (negF os) k = true
      · have Hf := Lib.hid (numW_yes hf)
        go_wp2_with fail
        refine (negFn_any k bo o os b2 _ (ho.keep (by (repeat (first | (with_reducible assumption) | (with_reducible exact Below.refl _ _) | ((with_reducible refine Below.alloc ?_ ?hsz _); (case hsz => (first | omega | (simp; done) | (simp; omega) | (simp at *; omega)))) | ((with_reducible refine Below.setCell ?_ ?hsz _); (case hsz => (first | omega | (simp; done) | (simp; omega) | (simp at *; omega)))) | (with_reducible refine Below.drew ?_) | (with_reducible refine below_drewN ?_ _) | ((with_reducible refine Below.trans ?_ (Below.mono (by with_reducible assumption) ?hsz)); (case hsz => (first | omega | (simp; done) | (simp; omega) | (simp at *; omega)))))))) (by have := HC.out; omega) (by (repeat (first | (with_reducible assumption) | ((with_reducible refine (Below.cell (by with_reducible assumption) ?hsz).trans ?_); (case hsz => (first | omega | (simp; done) | (simp; omega) | (simp at *; omega)))) | ((with_reducible refine (World.cell?_alloc_lt _ _ _ ?hsz).trans ?_); (case hsz => (first | omega | (simp; done) | (simp; omega) | (simp at *; omega)))) | ((with_reducible refine (World.cell?_setCell_other _ _ _ _ ?hsz).trans ?_); (case hsz => (intro h; injection h with h1 h2; omega))))))).mono ?_
        rintro e w2 ⟨rfl, hb2⟩
        have hown2 := own_keep hown (Nat.le_refl _) hb2
        have hz2' := hb2.size
        have hbw2 : Below w.heap.size w w2 := by (repeat (first | (with_reducible assumption) | (with_reducible exact Below.refl _ _) | ((with_reducible refine Below.alloc ?_ ?hsz _); (case hsz => (first | omega | (simp; done) | (simp; omega) | (simp at *; omega)))) | ((with_reducible refine Below.setCell ?_ ?hsz _); (case hsz => (first | omega | (simp; done) | (simp; omega) | (simp at *; omega)))) | (with_reducible refine Below.drew ?_) | (with_reducible refine below_drewN ?_ _) | ((with_reducible refine Below.trans ?_ (Below.mono (by with_reducible assumption) ?hsz)); (case hsz => (first | omega | (simp; done) | (simp; omega) | (simp at *; omega))))))
        have hrow : ∀ q, (Value.slice A1 j k1).ownBlock = some q → w.heap.size ≤ q := fun q hq => (hown.lt q hq).1
        clear hown hcr hfr hb hb2
        go_wp2_with (first
          | (at_builtin
             go_must (refine wpList_append_lies _ rfl _ _ 28 rfl w.heap.size 3 i0 _ 1 8 Try.underlying28 hi0 hz0 hz1 hz2 rfl (by omega) _ j _ rfl (hown2.alloc _) ⟨w2.heap.size, 0, none⟩ 1 1 [.int .i64 k] rfl rfl (World.news_of_block (cs := #[.int .i64 k]) (t := 3) (fr := (0, 0)) (heap_alloc_new _ _)) (by simp [Value.oneCell']) (by omega) (by unfold maxLen; omega) (by omega) (by simp; omega) _ rfl ?_)
             intro g2 k2 w7 hown7 hgr7 hat7 hlt7))
        have hb7 : Below w.heap.size w w7 := by
          refine Below.grown (w := w2.alloc (.cells #[.int .i64 k] 3)) (by (repeat (first | (with_reducible assumption) | (with_reducible exact Below.refl _ _) | ((with_reducible refine Below.alloc ?_ ?hsz _); (case hsz => (first | omega | (simp; done) | (simp; omega) | (simp at *; omega)))) | ((with_reducible refine Below.setCell ?_ ?hsz _); (case hsz => (first | omega | (simp; done) | (simp; omega) | (simp at *; omega)))) | (with_reducible refine Below.drew ?_) | (with_reducible refine below_drewN ?_ _) | ((with_reducible refine Below.trans ?_ (Below.mono (by with_reducible assumption) ?hsz)); (case hsz => (first | omega | (simp; done) | (simp; omega) | (simp at *; omega))))))) hgr7 (by (first | omega | (simp; done) | (simp; omega) | (simp at *; omega))) hrow
        have hown8 : w7.ownsRow w.heap.size 3 1 (.slice (some ⟨g2, 0, none⟩) (j + 1) k2) (j + 1) ((numW (k + 1) (negF os)).map (Value.int .i64)) := by
          rw [Hf.out, List.map_append]
          simpa using hown7
        have hj8 : (numW (k + 1) (negF os)).length = j + 1 := by rw [Hf.out, List.length_append, HJ.out]; rfl
        clear hown7 hgr7 hat7 hlt7
        go_roundw
        case rel => exact ⟨k + 1, j + 1, k2, some ⟨g2, 0, none⟩, by omega, by go_num, rfl, hj8, hown8, hb7⟩
        case measure => simp [intOf]; omega
      · have hf' : (negF os) k = false := by simpa using hf
        have Hf := Lib.hid (numW_no hf')
        clear hf
        go_wp2_with fail
        refine (negFn_any k bo o os b2 _ (ho.keep (by (repeat (first | (with_reducible assumption) | (with_reducible exact Below.refl _ _) | ((with_reducible refine Below.alloc ?_ ?hsz _); (case hsz => (first | omega | (simp; done) | (simp; omega) | (simp at *; omega)))) | ((with_reducible refine Below.setCell ?_ ?hsz _); (case hsz => (first | omega | (simp; done) | (simp; omega) | (simp at *; omega)))) | (with_reducible refine Below.drew ?_) | (with_reducible refine below_drewN ?_ _) | ((with_reducible refine Below.trans ?_ (Below.mono (by with_reducible assumption) ?hsz)); (case hsz => (first | omega | (simp; done) | (simp; omega) | (simp at *; omega)))))))) (by have := HC.out; omega) (by (repeat (first | (with_reducible assumption) | ((with_reducible refine (Below.cell (by with_reducible assumption) ?hsz).trans ?_); (case hsz => (first | omega | (simp; done) | (simp; omega) | (simp at *; omega)))) | ((with_reducible refine (World.cell?_alloc_lt _ _ _ ?hsz).trans ?_); (case hsz => (first | omega | (simp; done) | (simp; omega) | (simp at *; omega)))) | ((with_reducible refine (World.cell?_setCell_other _ _ _ _ ?hsz).trans ?_); (case hsz => (intro h; injection h with h1 h2; omega))))))).mono ?_
        rintro e w2 ⟨rfl, hb2⟩
        have hown2 := own_keep hown (Nat.le_refl _) hb2
        have hbw2 : Below w.heap.size w w2 := by (repeat (first | (with_reducible assumption) | (with_reducible exact Below.refl _ _) | ((with_reducible refine Below.alloc ?_ ?hsz _); (case hsz => (first | omega | (simp; done) | (simp; omega) | (simp at *; omega)))) | ((with_reducible refine Below.setCell ?_ ?hsz _); (case hsz => (first | omega | (simp; done) | (simp; omega) | (simp at *; omega)))) | (with_reducible refine Below.drew ?_) | (with_reducible refine below_drewN ?_ _) | ((with_reducible refine Below.trans ?_ (Below.mono (by with_reducible assumption) ?hsz)); (case hsz => (first | omega | (simp; done) | (simp; omega) | (simp at *; omega))))))
        clear hown hcr hfr hb hb2
        go_wp2
        go_roundw
        case rel => exact ⟨k + 1, j, k1, A1, by omega, by go_num, rfl, by rw [Hf.out]; exact HJ.out, by rw [Hf.out]; exact hown2, hbw2⟩
        case measure => simp [intOf]; omega
    · go_wp2
      go_ret
      have hk2 : k = cnt := by omega
      subst hk2
      exact ⟨_, rfl, ⟨by rw [HJ.out]; exact hown, by rw [HJ.out]; unfold small; omega⟩, hb⟩

/-- what the operations of the amount of a push yield -/
def amV (B0 go : Nat) (v u way o : Value) (f t : Nat) (a F Y mn : Int) : Nat → Value → Prop
  | 0, x => x = .pointer (some ⟨B0, 1, none⟩)
  | 1, x => x = v
  | 2, x => x = u
  | 3, x => x = way
  | 4, x => x = .int .i64 a
  | 5, x => x = o
  | 6, x => x = .int .i64 f
  | 7, x => x = .pointer (some ⟨go, f, none⟩)
  | 8, x => x = .int .i64 F
  | 9, x => x = o
  | 10, x => x = .int .i64 t
  | 11, x => x = .pointer (some ⟨go, t, none⟩)
  | 12, x => x = .int .i64 (-Y)
  | 13, x => x = .int .i64 Y
  | 14, x => x = .int .i64 mn
  | 15, x => x = .int .i64 mn
  | _, _ => True

theorem int_eq4 {a b : Int} (h : a = b) : Value.int .i64 a = .int .i64 b := by rw [h]

theorem numW_map (c : Nat) (f : Nat → Bool) : numW c f = ((List.range c).filter f).map fun i : Nat => (i : Int) := rfl

set_option maxHeartbeats 8000000 in
set_option maxRecDepth 20000 in
theorem pushedToLack_any (n : Int) (v u o : Value) (ps : List Pp) (xs nd : List Int) (b b' b2 : Nat) (w : World) (hp : Pipes w b v ps) (hx : Ints w b' u xs) (ho : Ints w b2 o (overL nd ps xs)) (hh : holdsB n ps xs = true) (hd : NeedIn n nd) (hln : (nd.length : Int) = n) (hbal : zeroD n nd ps xs = false) :
    Calls Try.prog 143 #[.agg #[.int .i64 n, v], u, o] w fun e w' => ∃ r, e = .returned (.tuple #[r, .bool (nextD n nd ps xs).isSome]) ∧ Ints w' w.heap.size r ((nextD n nd ps xs).getD []) ∧ Below w.heap.size w w' := by
  have hp0 := hp
  have hx0 := hx
  obtain ⟨A, c, rfl, -, -, -, -⟩ := hp.form
  obtain ⟨A', c', rfl, -, -, -, -⟩ := hx.form
  have hn := holds_net hh
  obtain ⟨n2, n5, hl7, -⟩ := netOk_parts hn
  have hfl := (holds_parts hh).1
  obtain ⟨N, rfl⟩ := Int.eq_ofNat_of_zero_le (show 0 ≤ n by omega)
  have hNl : nd.length = N := by omega
  obtain ⟨go, co, rfl, hRo⟩ := ho.row (by rw [overL_len]; omega)
  obtain ⟨f, hf⟩ : ∃ f, overO N nd ps xs = some f := by
    cases he : overO N nd ps xs with
    | none => rw [over_none hn hd he] at hbal; cases hbal
    | some f => exact ⟨f, rfl⟩
  obtain ⟨f1, f2, f3⟩ := over_some hf
  rw [Int.toNat_natCast] at f1
  have hol : (overL nd ps xs).length = N := by rw [overL_len, hNl]
  have Hfp : Hid (firstP (overL nd ps xs) = some f) := Lib.hid (by rw [overL_first ps xs hln]; exact hf)
  have Hgf : Hid ((overL nd ps xs).getD f 0 = dN nd ps xs f) := Lib.hid (overL_get ps xs (by omega))
  have Hgt : Hid (∀ t : Nat, t < N → (overL nd ps xs).getD t 0 = dN nd ps xs t) := Lib.hid fun t ht => overL_get ps xs (by omega)
  have Hfil := Lib.hid (overL_neg ps xs hln)
  have HH := Lib.hid (And.intro hh (And.intro hn (And.intro hfl hf)))
  have Hbd := Lib.hid (fun v : Nat => dN_bd hfl hd v)
  obtain ⟨mx, hmx⟩ : ∃ m, xs.length = m := ⟨_, rfl⟩
  rw [hmx] at hx0 ⊢
  rw [hol] at ho hRo ⊢
  have Hmx := Lib.hid hmx
  have HRo := Lib.hid hRo
  have Hol := Lib.hid hol
  have Hho := Lib.hid ho
  obtain ⟨hgo1, hgo2⟩ := hRo.lt
  obtain ⟨hgc1, hgc2⟩ := hRo.capd
  unfold maxLen at hgc2
  clear hh hn hfl hf f3 hbal hx hmx hol hd hln hNl ho hRo
  generalize overL nd ps xs = os at *
  obtain ⟨wa, hwa⟩ : ∃ wa, wa = (w.alloc (.cells #[.int .i64 N, .slice A ps.length c] 25)).alloc (.cells #[.slice (some ⟨go, 0, none⟩) N co] 28) := ⟨_, rfl⟩
  have bxa : Box2 wa w.heap.size (.int .i64 N) (.slice A ps.length c) := by
    rw [hwa]
    exact (Box2.new w _ _ 25).keep ((Below.refl _ _).alloc (Nat.le_refl _) _)
  have hBa : Below w.heap.size w wa := by rw [hwa]; (repeat (first | (with_reducible assumption) | (with_reducible exact Below.refl _ _) | ((with_reducible refine Below.alloc ?_ ?hsz _); (case hsz => (first | omega | (simp; done) | (simp; omega) | (simp at *; omega)))) | ((with_reducible refine Below.setCell ?_ ?hsz _); (case hsz => (first | omega | (simp; done) | (simp; omega) | (simp at *; omega)))) | (with_reducible refine Below.drew ?_) | (with_reducible refine below_drewN ?_ _) | ((with_reducible refine Below.trans ?_ (Below.mono (by with_reducible assumption) ?hsz)); (case hsz => (first | omega | (simp; done) | (simp; omega) | (simp at *; omega))))))
  have c6 : wa.cell? ⟨w.heap.size + 1, 0, none⟩ = some (.slice (some ⟨go, 0, none⟩) N co) := by
    rw [hwa]
    exact (World.cell?_alloc_at _ _ _ _ (by simp)).trans rfl
  have hza : w.heap.size + 1 < wa.heap.size := by rw [hwa]; simp
  have Hwa := Lib.hid (And.intro hwa (And.intro bxa (And.intro hBa (And.intro c6 hza))))
  clear hwa bxa hBa c6 hza
  go_enter Try.func143, Try.ntmps143
  go_wp2_with fail
  generalize hW : World.alloc (World.alloc w _) _ = W2
  obtain rfl : wa = W2 := Hwa.out.1.trans hW
  obtain ⟨-, bxa, hBa, c6, hza⟩ := Hwa.out
  clear hW
  obtain ⟨bs, d0, d1, -, -⟩ := id bxa
  refine (indexFirst_any _ os b2 _ (Hho.out.keep hBa)).mono ?_
  rintro e w1 ⟨r1, rfl, hr1, hb1⟩
  have hrf : r1 = (f : Int) := by
    rcases hr1 with ⟨-, h⟩ | ⟨q, h1, h2⟩
    · rw [Hfp.out] at h; cases h
    · rw [Hfp.out] at h2; injection h2 with h2; rw [h1, h2]
  subst hrf
  have hB1 := hBa.trans (hb1.mono hBa.size)
  have hz1 := hb1.size
  have bx1 := bxa.keep hb1
  have c61 := (bel_cell hb1 (show w.heap.size + 1 < wa.heap.size by omega)).trans c6
  clear hr1 bxa d0 d1 bs c6
  obtain ⟨bs, d0, d1, -, -⟩ := id bx1
  go_wp2_with fail
  refine (negWhere_any N (w.heap.size + 1) _ os b2 _ (Hho.out.keep hB1) Hol.out.symm (by omega) (by omega) c61).mono ?_
  rintro e w2 ⟨r2, rfl, hr2, hb2⟩
  have hB2 := hB1.trans (hb2.mono hB1.size)
  have hz2 := hb2.size
  have bx2 := bx1.keep hb2
  have c62 := (bel_cell hb2 (show w.heap.size + 1 < w1.heap.size by omega)).trans c61
  rw [numW_map] at hr2
  have hT0 := Hfil.out
  rw [Int.toNat_natCast] at hT0
  rw [hT0] at hr2
  clear hT0
  obtain ⟨T, hT⟩ : ∃ T, (List.range N).filter (lessD nd ps xs) = T := ⟨_, rfl⟩
  rw [hT] at hr2
  have Hlk : Hid (lackDO N nd ps xs f = T.find? fun v : Nat => wayB N ps xs f v) := Lib.hid (by rw [lackDO_eq, Int.toNat_natCast, hT])
  have HTm : Hid (∀ t ∈ T, t < N ∧ dN nd ps xs t < 0) := Lib.hid fun t ht => by
    rw [← hT] at ht
    have := List.mem_filter.1 ht
    exact ⟨List.mem_range.1 this.1, by simpa [lessD] using this.2⟩
  clear hT bx1 d0 d1 bs c61
  obtain ⟨bs, d0, d1, -, -⟩ := id bx2
  obtain ⟨A2, c2, rfl, hc21, hc22, hsm2, hcell2⟩ := hr2.form
  unfold maxLen at hc22
  have hlT : (T.map fun i : Nat => (i : Int)).length = T.length := by simp
  rw [hlT] at hc21 hsm2 ⊢
  have HlT := Lib.hid hlT
  have HC2 := Lib.hid hcell2
  clear hlT hr2 hcell2
  obtain ⟨F, hF⟩ : ∃ F, dN nd ps xs f = F := ⟨_, rfl⟩
  have HF := Lib.hid (And.intro hF f2)
  have hFb := Hbd.out f
  rw [hF] at hFb f2
  obtain ⟨hFb1, hFb2⟩ := hFb
  clear hF
  go_wp2_with fail
  go_loopw [21] (fun i wr => ∃ k : Nat, k ≤ T.length ∧ i = .int .i64 k ∧ (∀ x ∈ T.take k, (!wayB N ps xs f x) = true) ∧ Below w2.heap.size w2 wr) (fun i _ => T.length - (intOf i).toNat)
  case atStart => exact ⟨0, by omega, rfl, by simp, Below.refl _ _⟩
  case round =>
    clear d0 d1 bs
    obtain ⟨k, hk, rfl, hall, hb⟩ := hrel
    have Hall := Lib.hid hall
    clear hall
    have bx := bx2.keep hb
    obtain ⟨bs, d0, d1, -, -⟩ := id bx
    have hB := hB2.trans (hb.mono hB2.size)
    have hzb := hb.size
    have e6 := (bel_cell hb (show w.heap.size + 1 < w2.heap.size by omega)).trans c62
    by_cases hlt : k < T.length
    · obtain ⟨g, rfl, hg1, hg2, cw, -⟩ := HC2.out wr hb k (by rw [HlT.out]; exact hlt)
      have cw' : wr.cell? ⟨g, k, none⟩ = some (.int .i64 (T[k] : Nat)) := by rw [cw]; simp
      clear cw
      obtain ⟨t1, t2⟩ := HTm.out T[k] (List.getElem_mem hlt)
      have Hhit : Hid (wayB N ps xs f (T[k] : Nat) = true → lackDO N nd ps xs f = some T[k]) := Lib.hid fun h => by rw [Hlk.out]; exact find_at hlt Hall.out h
      have Hmiss : Hid (wayB N ps xs f (T[k] : Nat) = false → ∀ x ∈ T.take (k + 1), (!wayB N ps xs f x) = true) := Lib.hid fun h => all_take (f := fun x : Nat => !wayB N ps xs f x) hlt Hall.out (by simp [h])
      generalize T[k] = t at *
      have hft : f ≠ t := fun e => by
        have h1 := HF.out.2
        rw [e] at h1
        omega
      have he : endsB N ps f t = true := by
        simp [endsB, HH.out.2.1, withinB]
        omega
      have He := Lib.hid he
      have Ht2 := Lib.hid t2
      clear he hft t2
      go_wp2_with fail
      refine (wayFromIn_any N f t _ _ ps xs b b' _ (hp0.keep hB) (hx0.keep hB) HH.out.1 He.out).mono ?_
      rintro e w3 ⟨r3, rfl, hr3, hb3⟩
      have hb03 := hb.trans (hb3.mono hzb)
      have hB3 := hB2.trans (hb03.mono hB2.size)
      have hz3 := hb03.size
      have bx3 := bx2.keep hb03
      have e63 := (bel_cell hb03 (show w.heap.size + 1 < w2.heap.size by omega)).trans c62
      clear d0 d1 bs bx e6 cw' hb3
      obtain ⟨bs, d0, d1, -, -⟩ := id bx3
      obtain ⟨A3, c3, rfl, -, -, -, -⟩ := hr3.form
      obtain ⟨m3, hm3⟩ : ∃ m, (wayI N ps xs f t).length = m := ⟨_, rfl⟩
      rw [hm3] at hr3 ⊢
      clear hm3
      by_cases hw : wayB N ps xs f t = true
      · rw [hw]
        obtain ⟨q1, q2, q3, q4, q5, q6, -⟩ := push_facts hw
        obtain ⟨Y, hY⟩ : ∃ Y, dN nd ps xs t = -Y := ⟨-dN nd ps xs t, by omega⟩
        have hYb := Hbd.out t
        rw [hY] at hYb
        obtain ⟨hY1, hY2⟩ := hYb
        have h2 := Ht2.out
        have HPF := Lib.hid (pushD_facts (n := (N : Int)) (f := f) (t := t) (by omega) HF.out.2 h2 hw)
        have Hnx : Hid (nextD N nd ps xs = some (pushD N nd ps xs f t)) := Lib.hid (nextD_is HH.out.2.2.2 (Hhit.out hw))
        have Hof : Hid (w3.cell? ⟨go, f, none⟩ = some (.int .i64 F)) := Lib.hid (by
          rw [((HRo.out.keep hB3).at' f f1).1, Hgf.out, HF.out.1])
        have Hot : Hid (w3.cell? ⟨go, t, none⟩ = some (.int .i64 (-Y))) := Lib.hid (by
          rw [((HRo.out.keep hB3).at' t t1).1, Hgt.out t t1, hY])
        obtain ⟨mn, hmn⟩ : ∃ mn, amtD N nd ps xs f t = mn := ⟨_, rfl⟩
        have hmn2 : mn = min (min (amtR N ps xs f t) F) Y := by rw [← hmn, amtD, HF.out.1, hY, Int.neg_neg]
        have HY := Lib.hid (And.intro hY hmn)
        have HQ := Lib.hid (And.intro q2 (And.intro q4 (And.intro q5 q6)))
        have ham4 := amtR_pos hw
        obtain ⟨am, ham⟩ : ∃ am, amtR N ps xs f t = am := ⟨_, rfl⟩
        rw [ham] at hmn2 ham4
        have HAM := Lib.hid ham
        have hb1' := ham4.1
        have hb2' := ham4.2.1
        have hgo3 : go < w3.heap.size := by have := hB3.size; omega
        clear hY hmn q2 q4 q5 q6 ham4 ham hw
        go_wp2_with fail
        refine wp_region_flow 16 none [(0, 34), (1, 35), (2, 36), (3, 37), (4, 38), (5, 39), (6, 40), (7, 41), (8, 42), (9, 43), (10, 44), (11, 45), (12, 46), (13, 47), (14, 48), (15, 13)] (fun j x _ _ => amV w.heap.size go (.slice A ps.length c) (.slice A' mx c') (.slice A3 m3 c3) (.slice (some ⟨go, 0, none⟩) N co) f t am F Y mn j x) (fun _ _ _ => True) (fun _ wx => Below w3.heap.size w3 wx) (by kernel_rfl) (by kernel_rfl) rfl ⟨rfl, rfl, rfl, Nat.le_refl _, fun _ _ => rfl⟩ ?_ ?_ ?_ ?_
        · exact fun _ _ _ _ _ _ _ _ _ _ h => h
        · exact fun _ _ _ _ _ _ _ h => h
        · simp only [eachOp, fillF, List.setIfInBounds_toArray, List.set_cons_succ, List.set_cons_zero]
          refine ⟨?_, ?_, ?_, ?_, ?_, ?_, ?_, ?_, ?_, ?_, ?_, ?_, ?_, ?_, ?_, ?_, trivial⟩ <;> intro uu fu wx hC hd <;> (try simp [allV, useOf, Region.binds] at hd)
          · go_wp2
            exact ⟨_, rfl, rfl, trivial, hC⟩
          · rw [show uu 0 = _ from hd]
            have y1 := (bel_cell hC bs).trans d1
            go_wp2
            exact ⟨_, rfl, rfl, trivial, hC⟩
          · go_wp2
            exact ⟨_, rfl, rfl, trivial, hC⟩
          · go_wp2
            exact ⟨_, rfl, rfl, trivial, hC⟩
          · obtain ⟨u1, u2, u3⟩ : uu 1 = .slice A ps.length c ∧ uu 2 = .slice A' mx c' ∧ uu 3 = .slice A3 m3 c3 := hd
            rw [u1, u2, u3]
            go_wp2_with fail
            refine (wayRoom_any _ _ _ (wayR N ps xs f t) ps xs b b' _ wx (hr3.keep hC) (hp0.keep (hB3.trans (hC.mono (by omega)))) (hx0.keep (hB3.trans (hC.mono (by omega)))) HQ.out.2.2.2 hl7 HQ.out.1 HQ.out.2.1 HQ.out.2.2.1).mono ?_
            rintro e w9 ⟨rfl, hb9⟩
            rw [show roomL ps xs 4 (wayR N ps xs f t) = am from HAM.out]
            go_wp2
            exact ⟨_, rfl, rfl, trivial, hC.trans (hb9.mono hC.size)⟩
          · have y1 := (bel_cell hC (show w.heap.size + 1 < w3.heap.size by omega)).trans e63
            go_wp2
            exact ⟨_, rfl, rfl, trivial, hC⟩
          · go_wp2
            exact ⟨_, rfl, rfl, trivial, hC⟩
          · rw [show uu 5 = _ from hd.1, show uu 6 = _ from hd.2]
            go_wp2
            exact ⟨_, rfl, rfl, trivial, hC⟩
          · rw [show uu 7 = _ from hd]
            have y1 := (bel_cell hC hgo3).trans Hof.out
            go_wp2
            exact ⟨_, rfl, rfl, trivial, hC⟩
          · have y1 := (bel_cell hC (show w.heap.size + 1 < w3.heap.size by omega)).trans e63
            go_wp2
            exact ⟨_, rfl, rfl, trivial, hC⟩
          · go_wp2
            exact ⟨_, rfl, rfl, trivial, hC⟩
          · rw [show uu 9 = _ from hd.1, show uu 10 = _ from hd.2]
            go_wp2
            exact ⟨_, rfl, rfl, trivial, hC⟩
          · rw [show uu 11 = _ from hd]
            have y1 := (bel_cell hC hgo3).trans Hot.out
            go_wp2
            exact ⟨_, rfl, rfl, trivial, hC⟩
          · rw [show uu 12 = _ from hd]
            go_wp2
            exact ⟨_, rfl, rfl, trivial, hC⟩
          · obtain ⟨u4, u7, u11⟩ : uu 4 = .int .i64 am ∧ uu 8 = .int .i64 F ∧ uu 13 = .int .i64 Y := hd
            rw [u4, u7, u11]
            have HN2 := Lib.hid hmn2
            clear hmn2
            go_wp2
            all_goals exact ⟨_, rfl, int_eq4 (by have := HN2.out; omega), trivial, hC⟩
          · rw [show uu 14 = _ from hd]
            go_wp2
            exact ⟨_, rfl, rfl, trivial, hC⟩
        · intro uu fu wx hC hfin
          simp only [fillEnd, fillF, Act.put, List.setIfInBounds_toArray, List.set_cons_succ, List.set_cons_zero]
          rw [show uu 15 = _ from hfin 15 (by decide) (by decide)]
          have bx4 := bx3.keep hC
          have hB4 := hB3.trans (hC.mono (by omega))
          have hr4 := hr3.keep hC
          have hzC := hC.size
          clear hfin bx3 d0 d1 bs hr3 hmn2
          obtain ⟨bs, d0, d1, -, -⟩ := id bx4
          have hpc := HPF.out
          rw [HY.out.2] at hpc
          have HPC := Lib.hid hpc
          clear hpc
          go_wp2_with fail
          refine (pushedAlong_any _ _ (wayR N ps xs f t) ps xs b' _ mn _ hr4 (hx0.keep hB4) HQ.out.1 hl7 (by rw [Hmx.out] at q3 ⊢; exact q3) HQ.out.2.2.2 HPC.out.1 HPC.out.2).mono ?_
          rintro e w5 ⟨r5, rfl, hr5, hb5⟩
          have hB5 := hB4.trans (hb5.mono hB4.size)
          have hres : Hid (pushL mn xs (wayR N ps xs f t) = pushD N nd ps xs f t) := Lib.hid (by rw [pushD, HY.out.2])
          have hr6 := hr5.mono hB4.size
          clear hr5
          go_wp2
          go_ret2
          exact ⟨_, ret_vb (by rw [Hnx.out]; rfl), by rw [Hnx.out, Option.getD_some, ← hres.out]; exact hr6, hB5⟩
      · have hw' : wayB N ps xs f t = false := by simpa using hw
        rw [hw']
        have Hn := Lib.hid (Hmiss.out hw')
        clear hw hw' hr3
        go_wp2
        go_roundw
        case rel => exact ⟨k + 1, by omega, by go_num, Hn.out, hb03⟩
        case measure => simp [intOf]; omega
    · have hkk : k = T.length := by omega
      have Hnx : Hid (nextD N nd ps xs = none) := Lib.hid (nextD_none HH.out.2.2.2 (by
        rw [Hlk.out, List.find?_eq_none]
        intro x hx
        have := Hall.out x (by rw [hkk, List.take_length]; exact hx)
        simpa using this))
      go_wp2
      go_ret2
      exact ⟨_, ret_vb (by rw [Hnx.out]; rfl), by rw [Hnx.out]; exact Ints_nil _ _, hB⟩

def fedIs (n : Int) (nd : List Int) (ps : List Pp) (xs : List Int) : Bool := (fedF n nd ps xs).isSome
def fedL (n : Int) (nd : List Int) (ps : List Pp) (xs : List Int) : List Int := (fedF n nd ps xs).getD []
theorem fedIs_some {n : Int} {nd : List Int} {ps : List Pp} {xs ys : List Int} (h : fedF n nd ps xs = some ys) : fedIs n nd ps xs = true ∧ fedL n nd ps xs = ys := by simp [fedIs, fedL, h]
theorem fedIs_none {n : Int} {nd : List Int} {ps : List Pp} {xs : List Int} (h : fedF n nd ps xs = none) : fedIs n nd ps xs = false ∧ fedL n nd ps xs = [] := by simp [fedIs, fedL, h]

set_option maxHeartbeats 4000000 in
set_option maxRecDepth 20000 in
theorem fedFrom_any (n : Int) (v u0 o : Value) (ps : List Pp) (xs nd : List Int) (b b2 : Nat) (B : Nat) (w : World) (hBw : B ≤ w.heap.size) (hp : Pipes w b v ps) (hx : Ints w B u0 xs) (ho : Ints w b2 o nd) (hh : holdsB n ps xs = true) (hd : NeedIn n nd) (hln : (nd.length : Int) = n) :
    Calls Try.prog 91 #[.agg #[.int .i64 n, v], u0, o] w fun e w' => ∃ r, e = .returned (.tuple #[r, .bool (fedIs n nd ps xs)]) ∧ Ints w' B r (fedL n nd ps xs) ∧ Below w.heap.size w w' := by
  have hp0 := hp
  have ho0 := ho
  obtain ⟨A, c, rfl, hcp1, hcp2, -, -⟩ := hp.form
  obtain ⟨A2, c2, rfl, -, -, -, -⟩ := ho.form
  obtain ⟨A0, c0, rfl, -, -, -, -⟩ := hx.form
  obtain ⟨m0, hm0⟩ : ∃ m, xs.length = m := ⟨_, rfl⟩
  rw [hm0] at hx ⊢
  clear hm0
  unfold maxLen at hcp2
  have h5 := (netOk_parts (holds_net hh)).2.1
  have HD := Lib.hid (And.intro hd hln)
  have hnl5 : nd.length ≤ 5 := by omega
  obtain ⟨mo, hmo⟩ : ∃ m, nd.length = m := ⟨_, rfl⟩
  rw [hmo] at ho0 ⊢
  have Hn5 := Lib.hid hnl5
  clear hmo hd hln ho hnl5
  have bx0 := Box2.new w (.int .i64 n) (.slice A ps.length c) 25
  have hB0 : Below w.heap.size w (w.alloc (.cells #[.int .i64 n, .slice A ps.length c] 25)) := by (repeat (first | (with_reducible assumption) | (with_reducible exact Below.refl _ _) | ((with_reducible refine Below.alloc ?_ ?hsz _); (case hsz => (first | omega | (simp; done) | (simp; omega) | (simp at *; omega)))) | ((with_reducible refine Below.setCell ?_ ?hsz _); (case hsz => (first | omega | (simp; done) | (simp; omega) | (simp at *; omega)))) | (with_reducible refine Below.drew ?_) | (with_reducible refine below_drewN ?_ _) | ((with_reducible refine Below.trans ?_ (Below.mono (by with_reducible assumption) ?hsz)); (case hsz => (first | omega | (simp; done) | (simp; omega) | (simp at *; omega))))))
  have HX0 := Lib.hid (hx.keep hB0)
  have HH0 := Lib.hid hh
  clear hx hh
  go_enter Try.func91, Try.ntmps91
  go_wp2_with fail
  go_loopw [1] (fun t1 wr => ∃ (ys : List Int), Ints wr B t1 ys ∧ holdsB n ps ys = true ∧ fedF n nd ps ys = fedF n nd ps xs ∧ Below w.heap.size w wr ∧ Box2 wr w.heap.size (.int .i64 n) (.slice A ps.length c))
    (fun t1 wr => (posD n nd ps (Classical.epsilon fun ys => Ints wr B t1 ys)).toNat)
  case atStart => exact ⟨xs, HX0.out, HH0.out, rfl, hB0, bx0⟩
  case round =>
    clear bx0 hB0 HX0
    obtain ⟨ys, hI, hh, hc, hB, bx⟩ := hrel
    obtain ⟨bs, d0, d1, -, -⟩ := id bx
    have hzb := hB.size
    obtain ⟨A4, c4, rfl, -, -, -, -⟩ := hI.form
    obtain ⟨m4, hm4⟩ : ∃ m, ys.length = m := ⟨_, rfl⟩
    have HI := Lib.hid hI
    rw [hm4] at HI ⊢
    have HH := Lib.hid (And.intro hh hc)
    have HE1 : Hid ((Classical.epsilon fun zs => Ints wr B (.slice A4 m4 c4) zs) = ys) := Lib.hid (Ints.uniq (Classical.epsilon_spec (p := fun zs => Ints wr B (.slice A4 m4 c4) zs) ⟨ys, HI.out⟩) HI.out)
    have HOL := Lib.hid (overL_zero (nd := nd) ps ys HD.out.2)
    clear hI hm4 hc hh
    go_wp2_with fail
    refine (overNeeds_any n _ _ _ ps ys nd b _ b2 _ (hp0.keep hB) HI.out (ho0.keep hB) (holds_parts HH.out.1).1 Hn5.out HD.out.1.2).mono ?_
    rintro e w3 ⟨r3, rfl, hr3, hb3⟩
    have hB3 := hB.trans (hb3.mono hzb)
    have hz3 := hB3.size
    have bx3 := bx.keep hb3
    clear d0 d1 bs bx
    obtain ⟨bs, d0, d1, -, -⟩ := id bx3
    obtain ⟨A3, c3, rfl, -, -, -, -⟩ := hr3.form
    obtain ⟨m3, hm3⟩ : ∃ m, (overL nd ps ys).length = m := ⟨_, rfl⟩
    rw [hm3] at hr3 ⊢
    have HR3 := Lib.hid hr3
    clear hr3 hm3
    go_wp2_with fail
    refine (allZero_any _ _ _ _ HR3.out).mono ?_
    rintro e w4 ⟨rfl, hb4⟩
    rw [HOL.out]
    have hb34 := hb3.trans (hb4.mono hb3.size)
    have hB4 := hB3.trans (hb4.mono hz3)
    have hz4 := hB4.size
    have bx4 := bx3.keep hb4
    clear d0 d1 bs bx3
    obtain ⟨bs, d0, d1, -, -⟩ := id bx4
    by_cases hbal : zeroD n nd ps ys = true
    · have Hr : Hid (fedIs n nd ps xs = true ∧ fedL n nd ps xs = ys) := Lib.hid (fedIs_some (by rw [← HH.out.2, fedF_zero hbal]))
      rw [hbal]
      go_wp2
      go_ret2
      exact ⟨_, ret_vb Hr.out.1.symm, by rw [Hr.out.2]; exact HI.out.keep hb34, hB4⟩
    · have hbal' : zeroD n nd ps ys = false := by simpa using hbal
      have Hbal := Lib.hid hbal'
      rw [hbal']
      clear hbal hbal'
      go_wp2_with fail
      refine (pushedToLack_any n _ _ _ ps ys nd b _ _ _ (hp0.keep hB4) (HI.out.keep hb34) (HR3.out.keep hb4) HH.out.1 HD.out.1 HD.out.2 Hbal.out).mono ?_
      rintro e w5 ⟨r5, rfl, hr5, hb5⟩
      have hB5 := hB4.trans (hb5.mono hz4)
      have bx5 := bx4.keep hb5
      clear d0 d1 bs bx4
      obtain ⟨bs, d0, d1, -, -⟩ := id bx5
      have hr55 := hr5.mono (show B ≤ w4.heap.size by omega)
      cases hnx : nextD n nd ps ys with
      | none =>
        have Hr : Hid (fedIs n nd ps xs = false ∧ fedL n nd ps xs = []) := Lib.hid (fedIs_none (by rw [← HH.out.2, fedF_stuck Hbal.out hnx]))
        simp only [Option.isSome_none]
        clear hr5 hr55 hnx
        go_wp2
        go_ret2
        exact ⟨_, ret_vb Hr.out.1.symm, by rw [Hr.out.2]; exact Ints_nil _ _, hB5⟩
      | some zs =>
        rw [hnx, Option.getD_some] at hr55
        have hok := nextD_ok hnx
        have hst := fedF_step HD.out.1 HH.out.1 hnx
        have HX := Lib.hid (And.intro hr55 (And.intro hok (hst.symm.trans HH.out.2)))
        have HE2 : Hid ((Classical.epsilon fun q => Ints w5 B r5 q) = zs) := Lib.hid (Ints.uniq (Classical.epsilon_spec (p := fun q => Ints w5 B r5 q) ⟨zs, hr55⟩) hr55)
        simp only [Option.isSome_some]
        clear hr5 hr55 hnx hok hst
        go_wp2
        go_roundw
        case rel => exact ⟨zs, HX.out.1, HX.out.2.1.1, HX.out.2.2, hB5, bx5⟩
        case measure =>
          rw [HE1.out, HE2.out]
          have := HX.out.2.1.2
          have := posD_nn n nd ps zs
          omega

theorem noNeed_len {n : Int} (h : 0 ≤ n) : ((noNeed n).length : Int) = n := by rw [noNeed, List.length_replicate]; omega

/-- what the operations of CirculationOf's call yield -/
def ccV (B z N : Nat) (v : Value) (ps : List Pp) : Nat → Value → World → Prop
  | 0, x, _ => x = .agg #[.int .i64 N, v]
  | 1, x, _ => x = .pointer (some ⟨z, 1, none⟩)
  | 2, x, _ => x = v
  | 3, x, wx => Ints wx B x (leastL ps)
  | 4, x, _ => x = .pointer (some ⟨z, 0, none⟩)
  | 5, x, _ => x = .int .i64 N
  | 6, x, wx => Ints wx B x (noNeed N)
  | 7, x, wx => ∃ r, x = .tuple #[r, .bool (fedIs N (noNeed N) ps (leastL ps))] ∧ Ints wx B r (fedL N (noNeed N) ps (leastL ps))
  | 8, x, wx => Ints wx B x (fedL N (noNeed N) ps (leastL ps))
  | 9, x, _ => x = .bool (fedIs N (noNeed N) ps (leastL ps))
  | 10, x, wx => Ints wx B x (fedL N (noNeed N) ps (leastL ps))
  | 11, x, _ => x = .bool (fedIs N (noNeed N) ps (leastL ps))
  | _, _, _ => True

set_option maxHeartbeats 4000000 in
set_option maxRecDepth 20000 in
theorem circ_any (n : Int) (v : Value) (ps : List Pp) (b : Nat) (w : World) (hp : Pipes w b v ps) :
    Calls Try.prog 41 #[.agg #[.int .i64 n, v]] w fun e w' => ∃ r, e = .returned (.tuple #[r, .bool (circB n ps)]) ∧ Ints w' w.heap.size r (circL n ps) ∧ Below w.heap.size w w' := by
  have hp0 := hp
  obtain ⟨A, c, rfl, hcp1, hcp2, -, -⟩ := hp.form
  unfold maxLen at hcp2
  have bx0 := Box2.new w (.int .i64 n) (.slice A ps.length c) 25
  go_enter Try.func41, Try.ntmps41
  go_wp2_with fail
  with_reducible refine (netOk_any n _ ps b _ (hp0.keep (by (repeat (first | (with_reducible assumption) | (with_reducible exact Below.refl _ _) | ((with_reducible refine Below.alloc ?_ ?hsz _); (case hsz => (first | omega | (simp; done) | (simp; omega) | (simp at *; omega)))) | ((with_reducible refine Below.setCell ?_ ?hsz _); (case hsz => (first | omega | (simp; done) | (simp; omega) | (simp at *; omega)))) | (with_reducible refine Below.drew ?_) | (with_reducible refine below_drewN ?_ _) | ((with_reducible refine Below.trans ?_ (Below.mono (by with_reducible assumption) ?hsz)); (case hsz => (first | omega | (simp; done) | (simp; omega) | (simp at *; omega))))))))).mono ?_
  rintro e w1 ⟨rfl, hb1⟩
  have bx1 := bx0.keep hb1
  have hB1 : Below w.heap.size w w1 := by (repeat (first | (with_reducible assumption) | (with_reducible exact Below.refl _ _) | ((with_reducible refine Below.alloc ?_ ?hsz _); (case hsz => (first | omega | (simp; done) | (simp; omega) | (simp at *; omega)))) | ((with_reducible refine Below.setCell ?_ ?hsz _); (case hsz => (first | omega | (simp; done) | (simp; omega) | (simp at *; omega)))) | (with_reducible refine Below.drew ?_) | (with_reducible refine below_drewN ?_ _) | ((with_reducible refine Below.trans ?_ (Below.mono (by with_reducible assumption) ?hsz)); (case hsz => (first | omega | (simp; done) | (simp; omega) | (simp at *; omega))))))
  have hz1 := hB1.size
  clear bx0 hb1
  obtain ⟨bs, d0, d1, -, -⟩ := id bx1
  by_cases hn : netOkB n ps = true
  · rw [hn]
    obtain ⟨n2, n5, hl7, -⟩ := netOk_parts hn
    obtain ⟨N, rfl⟩ := Int.eq_ofNat_of_zero_le (show 0 ≤ n by omega)
    have Hr : Hid (circB N ps = fedIs N (noNeed N) ps (leastL ps) ∧ circL N ps = fedL N (noNeed N) ps (leastL ps)) := Lib.hid (by
      unfold circB circL fedIs fedL
      rw [circO_yes hn, fedF_no (least_holds hn)]
      exact ⟨rfl, rfl⟩)
    have Hl := Lib.hid (least_holds hn)
    have HD := Lib.hid (And.intro (noNeed_in N) (noNeed_len (n := (N : Int)) (by omega)))
    have hmk := fun W => run_make_ints (n := N) (by omega) W
    have hnN : noNeed (N : Int) = List.replicate N 0 := by rw [noNeed, Int.toNat_natCast]
    have HnN := Lib.hid hnN
    clear hn hnN
    go_wp2_with fail
    refine wp_region_flow 12 none [(0, 7), (1, 8), (2, 9), (3, 10), (4, 11), (5, 12), (6, 13), (7, 14), (8, 15), (9, 16), (10, 2), (11, 3)] (fun j x _ wx => ccV w1.heap.size w.heap.size N (.slice A ps.length c) ps j x wx) (fun _ wx wy => Below wx.heap.size wx wy) (fun _ wx => Below w1.heap.size w1 wx) (by kernel_rfl) (by kernel_rfl) rfl ⟨rfl, rfl, rfl, Nat.le_refl _, fun _ _ => rfl⟩ ?_ ?_ ?_ ?_
    · intro i k hi hk hal x u wx wy hR hV
      have hk' : k < 12 := hk
      have hb : Below wx.heap.size wx wy := hR
      rcases k with _ | _ | _ | _ | _ | _ | _ | _ | _ | _ | _ | _ | k
      all_goals first | exact hV | (exfalso; omega) | skip
      · exact Ints.keep hV hb
      · exact Ints.keep hV hb
      · obtain ⟨r, h1, h2⟩ := hV; exact ⟨r, h1, h2.keep hb⟩
      · exact Ints.keep hV hb
      · exact Ints.keep hV hb
    · exact fun _ _ _ _ _ _ _ h => h
    · simp only [eachOp, fillF, List.setIfInBounds_toArray, List.set_cons_succ, List.set_cons_zero]
      refine ⟨?_, ?_, ?_, ?_, ?_, ?_, ?_, ?_, ?_, ?_, ?_, ?_, trivial⟩ <;> intro u f wx hC hd <;> (try simp [allV, useOf, Region.binds] at hd) <;> have c0 := (bel_cell hC bs).trans d0 <;> have c1 := (bel_cell hC bs).trans d1
      · go_wp2
        exact ⟨_, rfl, rfl, Below.refl _ _, hC⟩
      · go_wp2
        exact ⟨_, rfl, rfl, Below.refl _ _, hC⟩
      · rw [show u 1 = _ from hd]
        go_wp2
        exact ⟨_, rfl, rfl, Below.refl _ _, hC⟩
      · rw [show u 2 = _ from hd]
        go_wp2_with fail
        refine (leastAmounts_any _ ps b _ (hp0.keep (hB1.trans (hC.mono hz1))) hl7).mono ?_
        rintro e w4 ⟨r, rfl, hr, hb4⟩
        go_wp2
        exact ⟨r, rfl, hr.mono hC.size, hb4, hC.trans (hb4.mono hC.size)⟩
      · go_wp2
        exact ⟨_, rfl, rfl, Below.refl _ _, hC⟩
      · rw [show u 4 = _ from hd]
        go_wp2
        exact ⟨_, rfl, rfl, Below.refl _ _, hC⟩
      · rw [show u 5 = _ from hd]
        go_wp2
        refine ⟨_, rfl, ?_, (Below.refl _ _).alloc (Nat.le_refl _) _, hC.alloc hC.size _⟩
        show Ints _ _ _ (noNeed N)
        rw [HnN.out]
        exact (Row.ints (b := wx.heap.size) ⟨made_ints wx N 3 wx.heap.size (Nat.le_refl _) (by omega), by unfold small; omega⟩).mono hC.size
      · obtain ⟨h0, h3, h6⟩ : u 0 = .agg #[.int .i64 N, .slice A ps.length c] ∧ Ints wx w1.heap.size (u 3) (leastL ps) ∧ Ints wx w1.heap.size (u 6) (noNeed N) := hd
        rw [h0]
        go_wp2_with fail
        refine (fedFrom_any N _ _ _ ps (leastL ps) (noNeed N) b _ w1.heap.size _ hC.size (hp0.keep (hB1.trans (hC.mono hz1))) h3 h6 Hl.out HD.out.1 HD.out.2).mono ?_
        rintro e w4 ⟨r, rfl, hr, hb4⟩
        go_wp2
        exact ⟨_, rfl, ⟨r, rfl, hr⟩, hb4, hC.trans (hb4.mono hC.size)⟩
      · obtain ⟨r, h7, hr⟩ : ∃ r, u 7 = .tuple #[r, .bool (fedIs N (noNeed N) ps (leastL ps))] ∧ Ints wx w1.heap.size r (fedL N (noNeed N) ps (leastL ps)) := hd
        rw [h7]
        go_wp2
        exact ⟨_, rfl, hr, Below.refl _ _, hC⟩
      · obtain ⟨r, h7, hr⟩ : ∃ r, u 7 = .tuple #[r, .bool (fedIs N (noNeed N) ps (leastL ps))] ∧ Ints wx w1.heap.size r (fedL N (noNeed N) ps (leastL ps)) := hd
        rw [h7]
        go_wp2
        exact ⟨_, rfl, rfl, Below.refl _ _, hC⟩
      · have h8 : Ints wx w1.heap.size (u 8) (fedL N (noNeed N) ps (leastL ps)) := hd
        obtain ⟨A8, c8, e8, -⟩ := h8.form
        rw [e8] at h8 ⊢
        go_wp2
        exact ⟨_, rfl, h8, Below.refl _ _, hC⟩
      · rw [show u 9 = _ from hd]
        go_wp2
        exact ⟨_, rfl, rfl, Below.refl _ _, hC⟩
    · intro u f wx hC hfin
      simp only [fillEnd, fillF, Act.put, List.setIfInBounds_toArray, List.set_cons_succ, List.set_cons_zero]
      have h10 : Ints wx w1.heap.size (u 10) (fedL N (noNeed N) ps (leastL ps)) := hfin 10 (by decide) (by decide)
      rw [show u 11 = _ from hfin 11 (by decide) (by decide)]
      generalize u 10 = s at *
      have hBC := hB1.trans (hC.mono hz1)
      clear hfin
      go_wp2
      go_ret2
      exact ⟨_, ret_vb Hr.out.1.symm, by rw [Hr.out.2]; exact h10.mono hz1, hBC⟩
  · have hn' : netOkB n ps = false := by simpa using hn
    rw [hn']
    have Hw := Lib.hid (circ_none (circO_no hn'))
    clear hn hn'
    go_wp2
    go_ret2
    exact ⟨_, ret_vb Hw.out.1.symm, by rw [Hw.out.2]; exact Ints_nil _ _, hB1⟩

end Go.Proofs.Ytobbeofibkpbaaa

/- Contracts of the functions of chapter 10 in the program: FeedingOf, CheapestFeed. -/
namespace Go.Proofs.Ytobbeofibkpbaaa
open Go.RowKit

/-- what the operations of FeedingOf's call yield -/
def fdV (B z : Nat) (n : Int) (v o : Value) (ps : List Pp) (nd : List Int) (M : Nat) : Nat → Value → World → Prop
  | 0, x, _ => x = .agg #[.int .i64 n, v]
  | 1, x, _ => x = .pointer (some ⟨z, 1, none⟩)
  | 2, x, _ => x = v
  | 3, x, _ => x = .int .i64 M
  | 4, x, wx => Ints wx B x (List.replicate M 0)
  | 5, x, _ => x = o
  | 6, x, wx => ∃ r, x = .tuple #[r, .bool (feedB n ps nd)] ∧ Ints wx B r (feedL n ps nd)
  | 7, x, wx => Ints wx B x (feedL n ps nd)
  | 8, x, _ => x = .bool (feedB n ps nd)
  | 9, x, wx => Ints wx B x (feedL n ps nd)
  | 10, x, _ => x = .bool (feedB n ps nd)
  | _, _, _ => True

set_option maxHeartbeats 4000000 in
set_option maxRecDepth 20000 in
theorem feedingOf_any (n : Int) (v o : Value) (ps : List Pp) (nd : List Int) (b b2 : Nat) (w : World) (hp : Pipes w b v ps) (ho : Ints w b2 o nd) :
    Calls Try.prog 47 #[.agg #[.int .i64 n, v], o] w fun e w' => ∃ r, e = .returned (.tuple #[r, .bool (feedB n ps nd)]) ∧ Ints w' w.heap.size r (feedL n ps nd) ∧ Below w.heap.size w w' := by
  have hp0 := hp
  have ho0 := ho
  obtain ⟨A, c, rfl, hcp1, hcp2, -, -⟩ := hp.form
  obtain ⟨A2, c2, rfl, -, -, -, -⟩ := ho.form
  obtain ⟨mo, hmo⟩ : ∃ m, nd.length = m := ⟨_, rfl⟩
  rw [hmo] at ho0 ⊢
  clear hmo ho
  unfold maxLen at hcp2
  have bx0 := Box2.new w (.int .i64 n) (.slice A ps.length c) 25
  go_enter Try.func47, Try.ntmps47
  go_wp2_with fail
  with_reducible refine (needsOk_any n _ _ ps nd b b2 _ (hp0.keep (by (repeat (first | (with_reducible assumption) | (with_reducible exact Below.refl _ _) | ((with_reducible refine Below.alloc ?_ ?hsz _); (case hsz => (first | omega | (simp; done) | (simp; omega) | (simp at *; omega)))) | ((with_reducible refine Below.setCell ?_ ?hsz _); (case hsz => (first | omega | (simp; done) | (simp; omega) | (simp at *; omega)))) | (with_reducible refine Below.drew ?_) | (with_reducible refine below_drewN ?_ _) | ((with_reducible refine Below.trans ?_ (Below.mono (by with_reducible assumption) ?hsz)); (case hsz => (first | omega | (simp; done) | (simp; omega) | (simp at *; omega)))))))) (ho0.keep (by (repeat (first | (with_reducible assumption) | (with_reducible exact Below.refl _ _) | ((with_reducible refine Below.alloc ?_ ?hsz _); (case hsz => (first | omega | (simp; done) | (simp; omega) | (simp at *; omega)))) | ((with_reducible refine Below.setCell ?_ ?hsz _); (case hsz => (first | omega | (simp; done) | (simp; omega) | (simp at *; omega)))) | (with_reducible refine Below.drew ?_) | (with_reducible refine below_drewN ?_ _) | ((with_reducible refine Below.trans ?_ (Below.mono (by with_reducible assumption) ?hsz)); (case hsz => (first | omega | (simp; done) | (simp; omega) | (simp at *; omega))))))))).mono ?_
  rintro e w1 ⟨rfl, hb1⟩
  have bx1 := bx0.keep hb1
  have hB1 : Below w.heap.size w w1 := by (repeat (first | (with_reducible assumption) | (with_reducible exact Below.refl _ _) | ((with_reducible refine Below.alloc ?_ ?hsz _); (case hsz => (first | omega | (simp; done) | (simp; omega) | (simp at *; omega)))) | ((with_reducible refine Below.setCell ?_ ?hsz _); (case hsz => (first | omega | (simp; done) | (simp; omega) | (simp at *; omega)))) | (with_reducible refine Below.drew ?_) | (with_reducible refine below_drewN ?_ _) | ((with_reducible refine Below.trans ?_ (Below.mono (by with_reducible assumption) ?hsz)); (case hsz => (first | omega | (simp; done) | (simp; omega) | (simp at *; omega))))))
  have hz1 := hB1.size
  clear bx0 hb1
  obtain ⟨bs, d0, d1, -, -⟩ := id bx1
  by_cases hn : needsB n ps nd = true
  · rw [hn]
    have hl7 := (netOk_parts (free_net (needs_parts hn).1)).2.2.1
    have Hr : Hid (feedB n ps nd = fedIs n nd ps (List.replicate ps.length 0) ∧ feedL n ps nd = fedL n nd ps (List.replicate ps.length 0)) := Lib.hid (by
      unfold feedB feedL fedIs fedL
      rw [feedO_yes hn]
      exact ⟨rfl, rfl⟩)
    have Hl := Lib.hid (needs_holds hn)
    have HD := Lib.hid (And.intro (needs_in hn) (needs_parts hn).2.1)
    obtain ⟨M, hM⟩ : ∃ M, ps.length = M := ⟨_, rfl⟩
    have hmk := fun W => run_make_ints (n := M) (by omega) W
    rw [hM] at d1 hp0 bx1 Hr Hl hcp1 hl7 ⊢
    have HM := Lib.hid hM
    clear hn hM
    go_wp2_with fail
    refine wp_region_flow 11 none [(0, 10), (1, 11), (2, 12), (3, 13), (4, 14), (5, 15), (6, 16), (7, 17), (8, 18), (9, 4), (10, 5)] (fun j x _ wx => fdV w1.heap.size w.heap.size n (.slice A M c) (.slice A2 mo c2) ps nd M j x wx) (fun _ wx wy => Below wx.heap.size wx wy) (fun _ wx => Below w1.heap.size w1 wx) (by kernel_rfl) (by kernel_rfl) rfl ⟨rfl, rfl, rfl, Nat.le_refl _, fun _ _ => rfl⟩ ?_ ?_ ?_ ?_
    · intro i k hi hk hal x u wx wy hR hV
      have hk' : k < 11 := hk
      have hb : Below wx.heap.size wx wy := hR
      rcases k with _ | _ | _ | _ | _ | _ | _ | _ | _ | _ | _ | k
      all_goals first | exact hV | (exfalso; omega) | skip
      · exact Ints.keep hV hb
      · obtain ⟨r, h1, h2⟩ := hV; exact ⟨r, h1, h2.keep hb⟩
      · exact Ints.keep hV hb
      · exact Ints.keep hV hb
    · exact fun _ _ _ _ _ _ _ h => h
    · simp only [eachOp, fillF, List.setIfInBounds_toArray, List.set_cons_succ, List.set_cons_zero]
      refine ⟨?_, ?_, ?_, ?_, ?_, ?_, ?_, ?_, ?_, ?_, ?_, trivial⟩ <;> intro u f wx hC hd <;> (try simp [allV, useOf, Region.binds] at hd) <;> have c0 := (bel_cell hC bs).trans d0 <;> have c1 := (bel_cell hC bs).trans d1
      · go_wp2
        exact ⟨_, rfl, rfl, Below.refl _ _, hC⟩
      · go_wp2
        exact ⟨_, rfl, rfl, Below.refl _ _, hC⟩
      · rw [show u 1 = _ from hd]
        go_wp2
        exact ⟨_, rfl, rfl, Below.refl _ _, hC⟩
      · rw [show u 2 = _ from hd]
        go_wp2
        exact ⟨_, rfl, rfl, Below.refl _ _, hC⟩
      · rw [show u 3 = _ from hd]
        go_wp2
        refine ⟨_, rfl, ?_, (Below.refl _ _).alloc (Nat.le_refl _) _, hC.alloc hC.size _⟩
        show Ints _ _ _ (List.replicate M 0)
        exact (Row.ints (b := wx.heap.size) ⟨made_ints wx M 3 wx.heap.size (Nat.le_refl _) (by omega), by unfold small; omega⟩).mono hC.size
      · go_wp2
        exact ⟨_, rfl, rfl, Below.refl _ _, hC⟩
      · obtain ⟨h0, h4, h5⟩ : u 0 = .agg #[.int .i64 n, .slice A M c] ∧ Ints wx w1.heap.size (u 4) (List.replicate M 0) ∧ u 5 = .slice A2 mo c2 := hd
        rw [h0, h5]
        go_wp2_with fail
        refine (fedFrom_any n _ _ _ ps (List.replicate M 0) nd b b2 w1.heap.size _ hC.size (hp0.keep (hB1.trans (hC.mono hz1))) h4 (ho0.keep (hB1.trans (hC.mono hz1))) Hl.out HD.out.1 HD.out.2).mono ?_
        rintro e w4 ⟨r, rfl, hr, hb4⟩
        go_wp2
        exact ⟨_, rfl, ⟨r, by rw [Hr.out.1], by rw [Hr.out.2]; exact hr⟩, hb4, hC.trans (hb4.mono hC.size)⟩
      · obtain ⟨r, h7, hr⟩ : ∃ r, u 6 = .tuple #[r, .bool (feedB n ps nd)] ∧ Ints wx w1.heap.size r (feedL n ps nd) := hd
        rw [h7]
        go_wp2
        exact ⟨_, rfl, hr, Below.refl _ _, hC⟩
      · obtain ⟨r, h7, hr⟩ : ∃ r, u 6 = .tuple #[r, .bool (feedB n ps nd)] ∧ Ints wx w1.heap.size r (feedL n ps nd) := hd
        rw [h7]
        go_wp2
        exact ⟨_, rfl, rfl, Below.refl _ _, hC⟩
      · have h8 : Ints wx w1.heap.size (u 7) (feedL n ps nd) := hd
        obtain ⟨A8, c8, e8, -⟩ := h8.form
        rw [e8] at h8 ⊢
        go_wp2
        exact ⟨_, rfl, h8, Below.refl _ _, hC⟩
      · rw [show u 8 = _ from hd]
        go_wp2
        exact ⟨_, rfl, rfl, Below.refl _ _, hC⟩
    · intro u f wx hC hfin
      simp only [fillEnd, fillF, Act.put, List.setIfInBounds_toArray, List.set_cons_succ, List.set_cons_zero]
      have h10 : Ints wx w1.heap.size (u 9) (feedL n ps nd) := hfin 9 (by decide) (by decide)
      rw [show u 10 = _ from hfin 10 (by decide) (by decide)]
      generalize u 9 = s at *
      have hBC := hB1.trans (hC.mono hz1)
      clear hfin
      go_wp2
      go_ret2
      exact ⟨_, rfl, h10.mono hz1, hBC⟩
  · have hn' : needsB n ps nd = false := by simpa using hn
    rw [hn']
    have Hw := Lib.hid (feed_none (feedO_no hn'))
    clear hn hn'
    go_wp2
    go_ret2
    exact ⟨_, ret_vb Hw.out.1.symm, by rw [Hw.out.2]; exact Ints_nil _ _, hB1⟩

end Go.Proofs.Ytobbeofibkpbaaa
