/- Contracts of the functions of chapter 3 in the model: the first way. -/
import Derived.Test.YtmgpekdhcghabaaGreatGR7
namespace Go.Proofs.YtmgpekdhcghabaaGreat
open Go.RowKit

theorem far_get {E : List (Int × Int)} {N : Nat} {c : Int} {v : Nat} (hv : v < N) : (farL E N c).getD v 0 = farD E N v c := by
  simp [farL, List.getD_eq_getElem?_getD, hv]
/-- is it the step that the model looks for -/
def isNextM (n : Int) (ps : List Pp) (xs : List Int) (c : Int) (k : Nat) (v : Int) (s : Nat) : Bool := decide (stFr ps s = v) && decide (dis n ps xs (stTo ps s) c = k)
theorem next_opens {n : Int} {ps : List Pp} {xs : List Int} {c v : Int} {k : Nat} : nextS n ps xs c k v = (opens ps xs (2 * ps.length)).find? (isNextM n ps xs c k v) := rfl
theorem find_snoc {α : Type} {p : α → Bool} {l : List α} {x : α} (h : l.find? p = none) (hx : p x = true) (m : List α) : (l ++ x :: m).find? p = some x := by
  rw [List.find?_append, h]; simp [hx]

theorem opens_split {ps : List Pp} {xs : List Int} {j M : Nat} (hj : j < M) (h : openF ps xs j = true) : ∃ m, opens ps xs M = opens ps xs j ++ j :: m := by
  induction M with
  | zero => omega
  | succ M ih =>
    by_cases hjm : j = M
    · subst hjm; exact ⟨[], opens_yes h⟩
    · obtain ⟨m, hm⟩ := ih (by omega)
      by_cases ho : openF ps xs M = true
      · exact ⟨m ++ [M], by rw [opens_yes ho, hm]; simp⟩
      · exact ⟨m, by rw [opens_no (by simpa using ho), hm]⟩
theorem opens_none {n : Int} {ps : List Pp} {xs : List Int} {c v : Int} {k j : Nat} (h : (opens ps xs j).find? (isNextM n ps xs c k v) = none) (hn : openF ps xs j = true → isNextM n ps xs c k v j = false) : (opens ps xs (j + 1)).find? (isNextM n ps xs c k v) = none := by
  by_cases ho : openF ps xs j = true
  · rw [opens_yes ho, List.find?_append, h]; simp [hn ho]
  · rw [opens_no (by simpa using ho)]; exact h

/-- the way from a node, none if there is none -/
def restL (n : Int) (ps : List Pp) (xs : List Int) (c v : Int) : List Nat := if dis n ps xs v c < n.toNat then wayL n ps xs c (dis n ps xs v c) v else []

set_option maxHeartbeats 4000000 in
set_option maxRecDepth 20000 in
theorem specWay_any (n i j : Int) (v u : Value) (ps : List Pp) (xs : List Int) (b b' : Nat) (w : World) (hp : Pipes w b v ps) (hx : Ints w b' u xs) (hh : holdsB n ps xs = true) (i0 : 0 ≤ i) (i1 : i < n) (j0 : 0 ≤ j) (j1 : j < n) :
    Calls Tryz.prog 117 #[.agg #[.int .i64 n, v], u, .int .i64 i, .int .i64 j] w fun e w' => ∃ r, e = .returned r ∧ Ints w' w.heap.size r ((restL n ps xs j i).map fun s : Nat => (s : Int)) ∧ Below w.heap.size w w' := by
  have hp0 := hp
  have hx0 := hx
  have hn := holds_net hh
  obtain ⟨hfl, -, hlen⟩ := holds_parts hh
  obtain ⟨-, -, hbd⟩ := flowOk_parts hfl
  obtain ⟨n2, n5, hl7, -⟩ := netOk_parts hn
  obtain ⟨A, c, rfl, hc1, hc2, hsm, -⟩ := hp.form
  obtain ⟨A', c', rfl, hc1', hc2', hsm', -⟩ := hx.form
  unfold maxLen at hc2 hc2'
  have HH := Lib.hid (And.intro hlen (And.intro hbd (net_rooms hn)))
  have HN := Lib.hid hn
  have Hh := Lib.hid hh
  clear hfl hlen hbd hn
  obtain ⟨N, rfl⟩ : ∃ N : Nat, n = (N : Int) := ⟨n.toNat, by omega⟩
  obtain ⟨a, rfl⟩ : ∃ a : Nat, i = (a : Int) := ⟨i.toNat, by omega⟩
  obtain ⟨i0', hi0, hz0, hz1', hz2'⟩ := info_parts int_info
  have bx0 := Box2.new w (.int .i64 N) (.slice A ps.length c) 25
  go_enter Tryz.func117, Tryz.ntmps117
  go_wp2_with fail
  with_reducible refine (specFar_any N j _ _ ps xs b b' _ (hp0.keep (by (repeat (first | (with_reducible assumption) | (with_reducible exact Below.refl _ _) | ((with_reducible refine Below.alloc ?_ ?hsz _); (case hsz => (first | omega | (simp; done) | (simp; omega) | (simp at *; omega)))) | ((with_reducible refine Below.setCell ?_ ?hsz _); (case hsz => (first | omega | (simp; done) | (simp; omega) | (simp at *; omega)))) | (with_reducible refine Below.drew ?_) | (with_reducible refine below_drewN ?_ _) | ((with_reducible refine Below.trans ?_ (Below.mono (by with_reducible assumption) ?hsz)); (case hsz => (first | omega | (simp; done) | (simp; omega) | (simp at *; omega)))))))) (hx0.keep (by (repeat (first | (with_reducible assumption) | (with_reducible exact Below.refl _ _) | ((with_reducible refine Below.alloc ?_ ?hsz _); (case hsz => (first | omega | (simp; done) | (simp; omega) | (simp at *; omega)))) | ((with_reducible refine Below.setCell ?_ ?hsz _); (case hsz => (first | omega | (simp; done) | (simp; omega) | (simp at *; omega)))) | (with_reducible refine Below.drew ?_) | (with_reducible refine below_drewN ?_ _) | ((with_reducible refine Below.trans ?_ (Below.mono (by with_reducible assumption) ?hsz)); (case hsz => (first | omega | (simp; done) | (simp; omega) | (simp at *; omega)))))))) hh j0 j1).mono ?_
  rintro e w1 ⟨r1, rfl, hr1, hb1⟩
  rw [Int.toNat_natCast] at hr1
  have hfl : (farL (edgL ps xs) N j).length = N := by simp [farL]
  obtain ⟨gl, cl, rfl, hR⟩ := hr1.row (by omega)
  rw [hfl] at hR hr1 ⊢
  have bx1 := bx0.keep hb1
  have hB1 : Below w.heap.size w w1 := by (repeat (first | (with_reducible assumption) | (with_reducible exact Below.refl _ _) | ((with_reducible refine Below.alloc ?_ ?hsz _); (case hsz => (first | omega | (simp; done) | (simp; omega) | (simp at *; omega)))) | ((with_reducible refine Below.setCell ?_ ?hsz _); (case hsz => (first | omega | (simp; done) | (simp; omega) | (simp at *; omega)))) | (with_reducible refine Below.drew ?_) | (with_reducible refine below_drewN ?_ _) | ((with_reducible refine Below.trans ?_ (Below.mono (by with_reducible assumption) ?hsz)); (case hsz => (first | omega | (simp; done) | (simp; omega) | (simp at *; omega))))))
  have hz1 := hB1.size
  have hlt1 := hR.lt
  obtain ⟨hcl1, hcl2⟩ := hR.capd
  unfold maxLen at hcl2
  clear bx0 hb1 hr1 hfl hh
  go_wp2_with fail
  go_loopw [10, 11] (fun t10 t11 wr => ∃ (node cp : Nat) (A2 : Option Addr) (acc : List Nat), t10 = .slice A2 acc.length cp ∧ t11 = .int .i64 node ∧ node < N ∧ acc.length + (if dst (edgL ps xs) N (node : Int) j < N then dst (edgL ps xs) N (node : Int) j else 0) ≤ N ∧
      acc ++ restL N ps xs j node = restL N ps xs j a ∧ wr.ownsRow w1.heap.size 3 1 (.slice A2 acc.length cp) acc.length ((acc.map fun s : Nat => (s : Int)).map (Value.int .i64)) ∧ Below w1.heap.size w1 wr) (fun _ t11 _ => dst (edgL ps xs) N (intOf t11) j)
  case atStart =>
    refine ⟨a, 0, some ⟨w1.heap.size, 0, none⟩, [], rfl, rfl, by omega, by simp; split <;> omega, rfl, ?_, by (repeat (first | (with_reducible assumption) | (with_reducible exact Below.refl _ _) | ((with_reducible refine Below.alloc ?_ ?hsz _); (case hsz => (first | omega | (simp; done) | (simp; omega) | (simp at *; omega)))) | ((with_reducible refine Below.setCell ?_ ?hsz _); (case hsz => (first | omega | (simp; done) | (simp; omega) | (simp at *; omega)))) | (with_reducible refine Below.drew ?_) | (with_reducible refine below_drewN ?_ _) | ((with_reducible refine Below.trans ?_ (Below.mono (by with_reducible assumption) ?hsz)); (case hsz => (first | omega | (simp; done) | (simp; omega) | (simp at *; omega))))))⟩
    exact World.ownsRow_lit (e := 3) (base := w1.heap.size) (size := 1) w1 #[] 0 (Nat.le_refl _) (by simp [maxLen]) rfl
  case round =>
    obtain ⟨node, cp, A2, acc, rfl, rfl, hnN, hacl, hacc, hown, hb⟩ := hrel
    have hRr := hR.keep hb
    obtain ⟨y0, -⟩ := hRr.at' node hnN
    rw [far_get hnN, farD] at y0
    have hzb := hb.size
    obtain ⟨m, hm⟩ : ∃ m : Nat, dst (edgL ps xs) N (node : Int) j = m := ⟨_, rfl⟩
    have hres : restL N ps xs j node = if m < N then wayL N ps xs j m node else [] := by rw [restL]; simp only [dis, Int.toNat_natCast, hm]
    rw [hm] at y0 hacl
    rw [hres] at hacc
    by_cases hpos : 0 < m ∧ m < N
    · obtain ⟨k, rfl⟩ : ∃ k, m = k + 1 := ⟨m - 1, by omega⟩
      rw [if_pos hpos.2] at y0 hacl hacc
      have hkN : k + 1 < N := hpos.2
      obtain ⟨s0, hs0⟩ := nextS_is (n := (N : Int)) (ps := ps) (xs := xs) (c := j) (v := (node : Int)) (k := k) (by rw [dis, Int.toNat_natCast]; exact hm) (by rw [Int.toNat_natCast]; omega)
      have HS0 := Lib.hid hs0
      have Hacc := Lib.hid hacc
      have Hm := Lib.hid hm
      have hzd : decide (0 < ((k + 1 : Nat) : Int)) = true := by simp
      have y0' : wr.cell? ⟨gl, node, none⟩ = some (.int .i64 ((k : Int) + 1)) := y0
      have hzd2 : decide (0 < (k : Int) + 1) = true := by simp; try omega
      clear hres hpos hacc hm hs0 hzd y0
      go_wp2_with fail
      go_loopw [10, 11, 12] (fun t10 t11 t12 ws => ∃ jj : Nat, jj ≤ 2 * ps.length ∧ t10 = .slice A2 acc.length cp ∧ t11 = .int .i64 node ∧ t12 = .int .i64 jj ∧ (opens ps xs jj).find? (isNextM N ps xs j k node) = none ∧
          ws.ownsRow w1.heap.size 3 1 (.slice A2 acc.length cp) acc.length ((acc.map fun s : Nat => (s : Int)).map (Value.int .i64)) ∧ Below w1.heap.size w1 ws) (fun _ _ t12 _ => 2 * ps.length - (intOf t12).toNat)
      case atStart => exact ⟨0, by omega, rfl, rfl, rfl, rfl, hown, hb⟩
      case round =>
        clear y0' hb hown hRr hzb hzd2
        obtain ⟨jj, hjj, rfl, rfl, rfl, hno, hown, hb1s⟩ := hrel
        have Hno := Lib.hid hno
        clear hno
        have bxs := bx1.keep hb1s
        obtain ⟨bs, d0, d1, -, -⟩ := id bxs
        have hzs := hb1s.size
        by_cases hlt2 : jj < 2 * ps.length
        · obtain ⟨⟨a0, a1⟩, ⟨e0, e1⟩, -⟩ := st_ends HN.out hlt2
          obtain ⟨fa, hfa⟩ : ∃ fa : Nat, stFr ps jj = (fa : Int) := ⟨(stFr ps jj).toNat, by omega⟩
          obtain ⟨te, hte⟩ : ∃ te : Nat, stTo ps jj = (te : Int) := ⟨(stTo ps jj).toNat, by omega⟩
          rw [hfa] at a0 a1
          rw [hte] at e0 e1
          obtain ⟨rm, hrm⟩ : ∃ rm, stRoom ps xs jj = rm := ⟨_, rfl⟩
          go_wp2_with fail
          with_reducible refine (specStep_any jj (N : Int) _ _ ps xs b b' _ (hp0.keep (hB1.trans (hb1s.mono hz1))) (hx0.keep (hB1.trans (hb1s.mono hz1))) hlt2 HH.out.1 HH.out.2.1 HH.out.2.2).mono ?_
          rintro ee w2 ⟨rfl, hb2⟩
          rw [hfa, hte, hrm]
          have hb12 : Below w1.heap.size w1 w2 := hb1s.trans (hb2.mono hzs)
          have hown2 := own_keep hown (Nat.le_refl _) hb2
          have hR2 := hR.keep hb12
          have bx2 := bx1.keep hb12
          obtain ⟨z0, -⟩ := hR2.at' te (by omega)
          rw [far_get (by omega)] at z0
          have y2 := (hR2.at' node hnN).1
          rw [far_get hnN, farD, Hm.out, if_pos hkN] at y2
          replace y2 : w2.cell? ⟨gl, node, none⟩ = some (.int .i64 ((k : Int) + 1)) := y2
          obtain ⟨dt, hdt⟩ : ∃ dt : Int, farD (edgL ps xs) N (te : Int) j = dt := ⟨_, rfl⟩
          rw [hdt] at z0
          have hdk : dt = k ↔ dis N ps xs (te : Int) j = k := by
            rw [← hdt, farD, dis, Int.toNat_natCast]
            split <;> omega
          clear bs d0 d1 hb2 hown
          have hisn : isNextM N ps xs j k node jj = (decide ((fa : Int) = (node : Int)) && decide (dt = (k : Int))) := by
            rw [isNextM, hfa, hte]
            congr 1
            rw [Bool.eq_iff_iff, decide_eq_true_eq, decide_eq_true_eq]
            exact hdk.symm
          have hlt9 := hR2.lt
          have hks : (k : Int) + 1 - 1 = (k : Int) := by omega
          have hk9 : (k : Int) < 10 := by omega
          have HD := Lib.hid hisn
          have HK := Lib.hid hdk
          by_cases q1 : (fa : Int) = (node : Int)
          · have q1d : ((fa : Int) == (node : Int)) = true := by simpa using q1
            have q1e : decide ((fa : Int) = (node : Int)) = true := by simpa using q1
            by_cases q2 : 0 < rm
            · have q2d : decide (0 < rm) = true := by simpa using q2
              by_cases q3 : dt = (k : Int)
              · have q3d : (dt == (k : Int)) = true := by simpa using q3
                have q3e : decide (dt = (k : Int)) = true := by simpa using q3
                have hop : openF ps xs jj = true := by rw [openF, hrm]; exact q2d
                have hyes : isNextM N ps xs j k node jj = true := by rw [hisn, q1e, q3e]; rfl
                have hs0j : nextS N ps xs j k node = some jj := by
                  obtain ⟨mm, hmm⟩ := opens_split hlt2 hop
                  rw [next_opens, hmm, find_snoc Hno.out hyes]
                have hnx : wayL (N : Int) ps xs j (k + 1) (node : Int) = jj :: wayL (N : Int) ps xs j k (te : Int) := by rw [wayL, hs0j]; simp only [hte]
                have hdte : dst (edgL ps xs) N (te : Int) j = k := by have := hdk.1 q3; simpa only [dis, Int.toNat_natCast] using this
                have hres2 : restL N ps xs j te = wayL N ps xs j k te := by rw [restL]; simp only [dis, Int.toNat_natCast, hdte]; rw [if_pos (by omega)]
                have hteN : te < N := by omega
                have HX := Lib.hid (And.intro hnx (And.intro hdte hres2))
                have hrow : ∀ q, (Value.slice A2 acc.length cp).ownBlock = some q → w1.heap.size ≤ q := fun q hq => (hown2.lt q hq).1
                have hz2 := hb12.size
                clear hyes hop hs0j hnx hdte hres2 q1 q2 q3 hisn hdk hdt hrm hfa hte
                go_wp2_with fail
                go_quiet (fail)
                rename_i nq
                have hown3 : (w2.drewN nq).ownsRow w1.heap.size 3 1 (.slice A2 acc.length cp) acc.length ((acc.map fun s : Nat => (s : Int)).map (Value.int .i64)) := own_keep hown2 (Nat.le_refl _) (by (repeat (first | (with_reducible assumption) | (with_reducible exact Below.refl _ _) | ((with_reducible refine Below.alloc ?_ ?hsz _); (case hsz => (first | omega | (simp; done) | (simp; omega) | (simp at *; omega)))) | ((with_reducible refine Below.setCell ?_ ?hsz _); (case hsz => (first | omega | (simp; done) | (simp; omega) | (simp at *; omega)))) | (with_reducible refine Below.drew ?_) | (with_reducible refine below_drewN ?_ _) | ((with_reducible refine Below.trans ?_ (Below.mono (by with_reducible assumption) ?hsz)); (case hsz => (first | omega | (simp; done) | (simp; omega) | (simp at *; omega)))))))
                go_wp2_with (first
                  | (at_builtin
                     go_must (refine wpList_append_lies _ rfl _ _ 30 rfl w1.heap.size 3 i0' _ 1 8 Tryz.underlying30 hi0 hz0 hz1' hz2' rfl (by omega) _ acc.length _ rfl (hown3.alloc _) ⟨w2.heap.size, 0, none⟩ 1 1 [.int .i64 (jj : Int)] rfl rfl (World.news_of_block (cs := #[.int .i64 (jj : Int)]) (t := 3) (fr := (0, 0)) (heap_alloc_new _ _)) (by simp [Value.oneCell']) (by omega) (by unfold maxLen; omega) (by omega) (by simp; omega) _ rfl ?_)
                     intro g2 k2 w7 hown7 hgr7 hat7 hlt7))
                have hb7 : Below w1.heap.size w1 w7 := Below.grown (w := (w2.drewN nq).alloc (.cells #[.int .i64 (jj : Int)] 3)) (by (repeat (first | (with_reducible assumption) | (with_reducible exact Below.refl _ _) | ((with_reducible refine Below.alloc ?_ ?hsz _); (case hsz => (first | omega | (simp; done) | (simp; omega) | (simp at *; omega)))) | ((with_reducible refine Below.setCell ?_ ?hsz _); (case hsz => (first | omega | (simp; done) | (simp; omega) | (simp at *; omega)))) | (with_reducible refine Below.drew ?_) | (with_reducible refine below_drewN ?_ _) | ((with_reducible refine Below.trans ?_ (Below.mono (by with_reducible assumption) ?hsz)); (case hsz => (first | omega | (simp; done) | (simp; omega) | (simp at *; omega))))))) hgr7 (by (first | omega | (simp; done) | (simp; omega) | (simp at *; omega))) (fun q hq => hrow q hq)
                have hown8 : w7.ownsRow w1.heap.size 3 1 (.slice (some ⟨g2, 0, none⟩) (acc ++ [jj]).length k2) (acc ++ [jj]).length (((acc ++ [jj]).map fun s : Nat => (s : Int)).map (Value.int .i64)) := by
                  have e : (acc ++ [jj]).length = acc.length + 1 := by simp
                  rw [e]
                  simpa using hown7
                clear hown7 hgr7 hat7 hlt7 hown3 hown2
                go_roundw
                case rel =>
                  refine ⟨te, k2, some ⟨g2, 0, none⟩, acc ++ [jj], by simp, rfl, hteN, ?_, ?_, hown8, hb7⟩
                  · rw [HX.out.2.1, if_pos (by omega)]; simp; omega
                  · rw [HX.out.2.2, ← Hacc.out, HX.out.1]; simp
                case measure =>
                  show dst (edgL ps xs) N (te : Int) j < dst (edgL ps xs) N (node : Int) j
                  rw [HX.out.2.1, Hm.out]; omega
              · have q3d : (dt == (k : Int)) = false := by simpa using q3
                have q3e : decide (dt = (k : Int)) = false := by simpa using q3
                have Hn2 := Lib.hid (opens_none (n := (N : Int)) Hno.out (fun ho => by
                  have ho2 : decide (0 < rm) = true := by rw [openF, hrm] at ho; exact ho
                  rw [hisn]
                  simp_all))
                (try clear q1)
                (try clear q2)
                (try clear q3)
                clear hisn hdk hdt hrm hfa hte
                go_wp2_with fail
                go_quiet (fail)
                go_wp2
                go_roundw
                case rel => exact ⟨jj + 1, by omega, rfl, rfl, by go_num, Hn2.out, own_keep hown2 (Nat.le_refl _) (by (repeat (first | (with_reducible assumption) | (with_reducible exact Below.refl _ _) | ((with_reducible refine Below.alloc ?_ ?hsz _); (case hsz => (first | omega | (simp; done) | (simp; omega) | (simp at *; omega)))) | ((with_reducible refine Below.setCell ?_ ?hsz _); (case hsz => (first | omega | (simp; done) | (simp; omega) | (simp at *; omega)))) | (with_reducible refine Below.drew ?_) | (with_reducible refine below_drewN ?_ _) | ((with_reducible refine Below.trans ?_ (Below.mono (by with_reducible assumption) ?hsz)); (case hsz => (first | omega | (simp; done) | (simp; omega) | (simp at *; omega))))))), by (repeat (first | (with_reducible assumption) | (with_reducible exact Below.refl _ _) | ((with_reducible refine Below.alloc ?_ ?hsz _); (case hsz => (first | omega | (simp; done) | (simp; omega) | (simp at *; omega)))) | ((with_reducible refine Below.setCell ?_ ?hsz _); (case hsz => (first | omega | (simp; done) | (simp; omega) | (simp at *; omega)))) | (with_reducible refine Below.drew ?_) | (with_reducible refine below_drewN ?_ _) | ((with_reducible refine Below.trans ?_ (Below.mono (by with_reducible assumption) ?hsz)); (case hsz => (first | omega | (simp; done) | (simp; omega) | (simp at *; omega))))))⟩
                case measure => simp [intOf]; omega
            · have q2d : decide (0 < rm) = false := by simpa using q2
              have Hn2 := Lib.hid (opens_none (n := (N : Int)) Hno.out (fun ho => by
                have ho2 : decide (0 < rm) = true := by rw [openF, hrm] at ho; exact ho
                rw [hisn]
                simp_all))
              (try clear q1)
              (try clear q2)
              (try clear q3)
              clear hisn hdk hdt hrm hfa hte
              go_wp2_with fail
              go_quiet (fail)
              go_wp2
              go_roundw
              case rel => exact ⟨jj + 1, by omega, rfl, rfl, by go_num, Hn2.out, own_keep hown2 (Nat.le_refl _) (by (repeat (first | (with_reducible assumption) | (with_reducible exact Below.refl _ _) | ((with_reducible refine Below.alloc ?_ ?hsz _); (case hsz => (first | omega | (simp; done) | (simp; omega) | (simp at *; omega)))) | ((with_reducible refine Below.setCell ?_ ?hsz _); (case hsz => (first | omega | (simp; done) | (simp; omega) | (simp at *; omega)))) | (with_reducible refine Below.drew ?_) | (with_reducible refine below_drewN ?_ _) | ((with_reducible refine Below.trans ?_ (Below.mono (by with_reducible assumption) ?hsz)); (case hsz => (first | omega | (simp; done) | (simp; omega) | (simp at *; omega))))))), by (repeat (first | (with_reducible assumption) | (with_reducible exact Below.refl _ _) | ((with_reducible refine Below.alloc ?_ ?hsz _); (case hsz => (first | omega | (simp; done) | (simp; omega) | (simp at *; omega)))) | ((with_reducible refine Below.setCell ?_ ?hsz _); (case hsz => (first | omega | (simp; done) | (simp; omega) | (simp at *; omega)))) | (with_reducible refine Below.drew ?_) | (with_reducible refine below_drewN ?_ _) | ((with_reducible refine Below.trans ?_ (Below.mono (by with_reducible assumption) ?hsz)); (case hsz => (first | omega | (simp; done) | (simp; omega) | (simp at *; omega))))))⟩
              case measure => simp [intOf]; omega
          · have q1d : ((fa : Int) == (node : Int)) = false := by simpa using q1
            have q1e : decide ((fa : Int) = (node : Int)) = false := by simpa using q1
            have Hn2 := Lib.hid (opens_none (n := (N : Int)) Hno.out (fun ho => by
              have ho2 : decide (0 < rm) = true := by rw [openF, hrm] at ho; exact ho
              rw [hisn]
              simp_all))
            (try clear q1)
            (try clear q2)
            (try clear q3)
            clear hisn hdk hdt hrm hfa hte
            go_wp2_with fail
            go_quiet (fail)
            go_wp2
            go_roundw
            case rel => exact ⟨jj + 1, by omega, rfl, rfl, by go_num, Hn2.out, own_keep hown2 (Nat.le_refl _) (by (repeat (first | (with_reducible assumption) | (with_reducible exact Below.refl _ _) | ((with_reducible refine Below.alloc ?_ ?hsz _); (case hsz => (first | omega | (simp; done) | (simp; omega) | (simp at *; omega)))) | ((with_reducible refine Below.setCell ?_ ?hsz _); (case hsz => (first | omega | (simp; done) | (simp; omega) | (simp at *; omega)))) | (with_reducible refine Below.drew ?_) | (with_reducible refine below_drewN ?_ _) | ((with_reducible refine Below.trans ?_ (Below.mono (by with_reducible assumption) ?hsz)); (case hsz => (first | omega | (simp; done) | (simp; omega) | (simp at *; omega))))))), by (repeat (first | (with_reducible assumption) | (with_reducible exact Below.refl _ _) | ((with_reducible refine Below.alloc ?_ ?hsz _); (case hsz => (first | omega | (simp; done) | (simp; omega) | (simp at *; omega)))) | ((with_reducible refine Below.setCell ?_ ?hsz _); (case hsz => (first | omega | (simp; done) | (simp; omega) | (simp at *; omega)))) | (with_reducible refine Below.drew ?_) | (with_reducible refine below_drewN ?_ _) | ((with_reducible refine Below.trans ?_ (Below.mono (by with_reducible assumption) ?hsz)); (case hsz => (first | omega | (simp; done) | (simp; omega) | (simp at *; omega))))))⟩
            case measure => simp [intOf]; omega
        · exfalso
          have hj2 : jj = 2 * ps.length := by omega
          have h1 := Hno.out
          rw [hj2] at h1
          have h2 := HS0.out
          rw [next_opens, h1] at h2
          cases h2
    · have hfin : Hid (restL N ps xs j a = acc) := Lib.hid (by
        rw [← hacc]
        split
        · have : m = 0 := by omega
          subst this; simp [wayL]
        · simp)
      obtain ⟨z, hz, hz0'⟩ : ∃ z : Int, (if m < N then (m : Int) else -1) = z ∧ z ≤ 0 := ⟨_, rfl, by split <;> omega⟩
      rw [hz] at y0
      have hzd : decide (0 < z) = false := by simpa using hz0'
      have hac5 : acc.length ≤ N := by omega
      clear hz hacc hres hacl hpos hm
      go_wp2
      go_ret
      refine ⟨_, rfl, ?_, hB1.trans (hb.mono hz1)⟩
      rw [hfin.out]
      exact ⟨own_mono (by simpa using hown) (by omega), by simp [small]; omega⟩

end Go.Proofs.YtmgpekdhcghabaaGreat
