/- FnGreatestValue: for every code the law holds: the greatest value is the model's and the least room of a cut; in the turned net, the other way, it is the same; and with one more for the first pipe it is the same, or one more. No condition. -/
import Derived.Test.YtobbeofibkpbaaaGZ56
import Derived.Test.YtobbeofibkpbaaaGZ26
import Derived.Test.YtobbeofibkpbaaaGZ57
import Derived.Test.YtobbeofibkpbaaaGZ3
import Derived.Test.YtobbeofibkpbaaaGZ45
import Derived.Test.YtobbeofibkpbaaaGZ51
import Derived.Test.YtobbeofibkpbaaaGZ12
import Derived.Deep.AppendLies
import Derived.Deep.RegionLaw
import Derived.Deep.RegionHeld3
import Derived.Deep.DeepCutAuto
namespace Go.Proofs.Ytobbeofibkpbaaa.lawGreatestValue
open Go.ChangeShapes Go.WideShapes Go.ChangeAt Go.RowKit Go.Deep Go.Joins

theorem more_of {n a b : Int} {p : Pp} {ps : List Pp} (h : greatB n (p :: ps) a b = true) : greatV n (moreP p :: ps) a b < 0 ∨ greatV n (moreP p :: ps) a b = greatV n (p :: ps) a b ∨ greatV n (moreP p :: ps) a b = greatV n (p :: ps) a b + 1 := by
  by_cases h' : greatB n (moreP p :: ps) a b = true
  · rw [great_cut h, great_cut h']
    exact .inr (least_more (great_parts h).2 (great_parts h').2)
  · left
    rw [greatV, if_neg h']
    omega

theorem vals {n a b : Int} {ps : List Pp} (h : greatB n ps a b = true) : ∃ G, greatV n ps a b = G ∧ 0 ≤ G ∧ G ≤ 28 ∧ (leastR n ps a b).1 = G ∧ (leastR n ps a b).2 = true ∧ greatV n (ps.map turnP) b a = G := by
  obtain ⟨hf, he⟩ := great_parts h
  obtain ⟨e1, e2⟩ := leastR_one he
  have h' : greatB n (ps.map turnP) b a = true := by rw [greatB, free_turn, ends_turn, hf, he]; rfl
  have hle := le_cut he (free_holds hf) (fun v _ _ _ _ => exc_zeros v ps)
  rw [exc_zeros] at hle
  obtain ⟨s, -, -, -, es⟩ := least_at he
  have hb := room_bd7 (s := s) (ends_parts he).1
  refine ⟨leastI n ps a b, great_cut h, hle, by omega, e1, e2, ?_⟩
  rw [great_cut h', least_turn he]

set_option maxHeartbeats 2000000 in
set_option maxRecDepth 20000 in
theorem walk (v : Value) (n : Nat) (w : World) (h : ArgBytes w v n) :
    Calls Try.prog 4 #[v] w fun e w' => e = .returned (.bool true) ∧ Below w.heap.size w w' := by
  obtain ⟨A, c, rfl, hc1, hc2, -⟩ := id h
  unfold maxLen at hc2
  by_cases hbig : 1048576 < n
  · go_enter Try.func4, Try.ntmps4
    go_wp2
    go_ret
    exact ⟨rfl, by (repeat (first | (with_reducible assumption) | (with_reducible exact Below.refl _ _) | ((with_reducible refine Below.alloc ?_ ?hsz _); (case hsz => (first | omega | (simp; done) | (simp; omega) | (simp at *; omega)))) | ((with_reducible refine Below.setCell ?_ ?hsz _); (case hsz => (first | omega | (simp; done) | (simp; omega) | (simp at *; omega)))) | (with_reducible refine Below.drew ?_) | (with_reducible refine below_drewN ?_ _) | ((with_reducible refine Below.trans ?_ (Below.mono (by with_reducible assumption) ?hsz)); (case hsz => (first | omega | (simp; done) | (simp; omega) | (simp at *; omega))))))⟩
  go_enter Try.func4, Try.ntmps4
  go_wp2_with fail
  with_reducible refine (drawGreatestValue_any _ n _ (h.keep (by (repeat (first | (with_reducible assumption) | (with_reducible exact Below.refl _ _) | ((with_reducible refine Below.alloc ?_ ?hsz _); (case hsz => (first | omega | (simp; done) | (simp; omega) | (simp at *; omega)))) | ((with_reducible refine Below.setCell ?_ ?hsz _); (case hsz => (first | omega | (simp; done) | (simp; omega) | (simp at *; omega)))) | (with_reducible refine Below.drew ?_) | (with_reducible refine below_drewN ?_ _) | ((with_reducible refine Below.trans ?_ (Below.mono (by with_reducible assumption) ?hsz)); (case hsz => (first | omega | (simp; done) | (simp; omega) | (simp at *; omega))))))))).mono ?_
  rintro e w1 ⟨z, ps, u, i, j, rfl, hp, hb1, hl8, hz1, hz6, hi0, hj0, hiz⟩
  have hBw1 : Below w.heap.size w w1 := by (repeat (first | (with_reducible assumption) | (with_reducible exact Below.refl _ _) | ((with_reducible refine Below.alloc ?_ ?hsz _); (case hsz => (first | omega | (simp; done) | (simp; omega) | (simp at *; omega)))) | ((with_reducible refine Below.setCell ?_ ?hsz _); (case hsz => (first | omega | (simp; done) | (simp; omega) | (simp at *; omega)))) | (with_reducible refine Below.drew ?_) | (with_reducible refine below_drewN ?_ _) | ((with_reducible refine Below.trans ?_ (Below.mono (by with_reducible assumption) ?hsz)); (case hsz => (first | omega | (simp; done) | (simp; omega) | (simp at *; omega))))))
  clear h hc1 hc2 hbig
  obtain ⟨A1, c1, rfl, hk1, hk2, hsm, -⟩ := hp.form
  unfold maxLen at hk2
  have bx1 : Box2 (w1.alloc (.cells #[.int .i64 z, .slice A1 ps.length c1] 25)) w1.heap.size (.int .i64 z) (.slice A1 ps.length c1) := Box2.new _ _ _ _
  have hB1 : Below w1.heap.size w1 (w1.alloc (.cells #[.int .i64 z, .slice A1 ps.length c1] 25)) := by (repeat (first | (with_reducible assumption) | (with_reducible exact Below.refl _ _) | ((with_reducible refine Below.alloc ?_ ?hsz _); (case hsz => (first | omega | (simp; done) | (simp; omega) | (simp at *; omega)))) | ((with_reducible refine Below.setCell ?_ ?hsz _); (case hsz => (first | omega | (simp; done) | (simp; omega) | (simp at *; omega)))) | (with_reducible refine Below.drew ?_) | (with_reducible refine below_drewN ?_ _) | ((with_reducible refine Below.trans ?_ (Below.mono (by with_reducible assumption) ?hsz)); (case hsz => (first | omega | (simp; done) | (simp; omega) | (simp at *; omega))))))
  go_wp2_with fail
  with_reducible refine (greatestValue_any z i j _ ps _ _ (hp.keep hB1)).mono ?_
  rintro e w2 ⟨rfl, hnn⟩
  have bx2 := (bx1).keep hnn
  have hB2 : Below w1.heap.size w1 w2 := by (repeat (first | (with_reducible assumption) | (with_reducible exact Below.refl _ _) | ((with_reducible refine Below.alloc ?_ ?hsz _); (case hsz => (first | omega | (simp; done) | (simp; omega) | (simp at *; omega)))) | ((with_reducible refine Below.setCell ?_ ?hsz _); (case hsz => (first | omega | (simp; done) | (simp; omega) | (simp at *; omega)))) | (with_reducible refine Below.drew ?_) | (with_reducible refine below_drewN ?_ _) | ((with_reducible refine Below.trans ?_ (Below.mono (by with_reducible assumption) ?hsz)); (case hsz => (first | omega | (simp; done) | (simp; omega) | (simp at *; omega))))))
  clear hnn
  (try clear d0 d1 g0 g1)
  obtain ⟨bs, d0, d1, g0, g1⟩ := id bx2
  go_wp2_with fail
  with_reducible refine (specGreatestValue_any z i j _ ps _ _ (hp.keep hB2)).mono ?_
  rintro e w3 ⟨rfl, hnn⟩
  have bx3 := (bx2).keep hnn
  have hB3 : Below w1.heap.size w1 w3 := by (repeat (first | (with_reducible assumption) | (with_reducible exact Below.refl _ _) | ((with_reducible refine Below.alloc ?_ ?hsz _); (case hsz => (first | omega | (simp; done) | (simp; omega) | (simp at *; omega)))) | ((with_reducible refine Below.setCell ?_ ?hsz _); (case hsz => (first | omega | (simp; done) | (simp; omega) | (simp at *; omega)))) | (with_reducible refine Below.drew ?_) | (with_reducible refine below_drewN ?_ _) | ((with_reducible refine Below.trans ?_ (Below.mono (by with_reducible assumption) ?hsz)); (case hsz => (first | omega | (simp; done) | (simp; omega) | (simp at *; omega))))))
  clear hnn
  (try clear d0 d1 g0 g1)
  obtain ⟨bs, d0, d1, g0, g1⟩ := id bx3
  by_cases hg : greatB z ps i j = true
  · obtain ⟨hok, i0, i1, j0, j1, hij⟩ := ends_parts (great_parts hg).2
    obtain ⟨G, hG, G0, G1, l1, l2, hT⟩ := vals hg
    rw [hG]
    have HT := Lib.hid (And.intro hT (And.intro hG hg))
    clear hT hG hg hij
    go_wp2_with fail
    with_reducible refine (leastRoom_any z i j _ ps _ _ (hp.keep hB3)).mono ?_
    rintro e w4 ⟨rfl, hnn⟩
    have bx4 := (bx3).keep hnn
    have hB4 : Below w1.heap.size w1 w4 := by (repeat (first | (with_reducible assumption) | (with_reducible exact Below.refl _ _) | ((with_reducible refine Below.alloc ?_ ?hsz _); (case hsz => (first | omega | (simp; done) | (simp; omega) | (simp at *; omega)))) | ((with_reducible refine Below.setCell ?_ ?hsz _); (case hsz => (first | omega | (simp; done) | (simp; omega) | (simp at *; omega)))) | (with_reducible refine Below.drew ?_) | (with_reducible refine below_drewN ?_ _) | ((with_reducible refine Below.trans ?_ (Below.mono (by with_reducible assumption) ?hsz)); (case hsz => (first | omega | (simp; done) | (simp; omega) | (simp at *; omega))))))
    clear hnn
    (try clear d0 d1 g0 g1)
    obtain ⟨bs, d0, d1, g0, g1⟩ := id bx4
    rw [l1, l2]
    clear l1 l2
    obtain ⟨i0', hi0', hz0, hz1', hz2'⟩ := info_parts pipe_info
    have hl7 := (netOk_parts hok).2.2.1
    go_upto_region 10 with fail
    go_cut [9] (fun t9 wx => ∃ b9 g2 k2 : Nat, t9 = .pointer (some ⟨b9, 0, none⟩) ∧ Box2 wx b9 (.int .i64 z) (.slice (some ⟨g2, 0, none⟩) ps.length k2) ∧ wx.ownsRow w4.heap.size 45 5 (.slice (some ⟨g2, 0, none⟩) ps.length k2) ps.length (ps.flatMap Pp.cells) ∧ Below w4.heap.size w4 wx ∧ w4.heap.size ≤ b9 ∧ b9 ≠ g2)
    case first =>
      rcases ps with _ | ⟨p, qs⟩
      · dsimp only [List.length_nil] at d1 ⊢
        cases A1
        · go_region
          all_goals
            go_wp2_with fail
            go_meet
            (first
              | (refine ⟨w4.heap.size + 1, w4.heap.size, 0, rfl, ?_, ?_, by (repeat (first | (with_reducible assumption) | (with_reducible exact Below.refl _ _) | ((with_reducible refine Below.alloc ?_ ?hsz _); (case hsz => (first | omega | (simp; done) | (simp; omega) | (simp at *; omega)))) | ((with_reducible refine Below.setCell ?_ ?hsz _); (case hsz => (first | omega | (simp; done) | (simp; omega) | (simp at *; omega)))) | (with_reducible refine Below.drew ?_) | (with_reducible refine below_drewN ?_ _) | ((with_reducible refine Below.trans ?_ (Below.mono (by with_reducible assumption) ?hsz)); (case hsz => (first | omega | (simp; done) | (simp; omega) | (simp at *; omega)))))), by omega, by omega⟩
                 · have h := (Box2.new (w4.alloc (.cells #[] 45)) (.int .i64 z) (.slice (some ⟨w4.heap.size, 0, none⟩) 0 0) 25).keep (Below.drew (Below.refl _ _))
                   rw [World.size_alloc] at h
                   exact h
                 · exact own_keep (World.ownsRow_lit (e := 45) (base := w4.heap.size) (size := 5) w4 #[] 0 (Nat.le_refl _) (by simp [maxLen]) rfl) (Nat.le_refl _) (by (repeat (first | (with_reducible assumption) | (with_reducible exact Below.refl _ _) | ((with_reducible refine Below.alloc ?_ ?hsz _); (case hsz => (first | omega | (simp; done) | (simp; omega) | (simp at *; omega)))) | ((with_reducible refine Below.setCell ?_ ?hsz _); (case hsz => (first | omega | (simp; done) | (simp; omega) | (simp at *; omega)))) | (with_reducible refine Below.drew ?_) | (with_reducible refine below_drewN ?_ _) | ((with_reducible refine Below.trans ?_ (Below.mono (by with_reducible assumption) ?hsz)); (case hsz => (first | omega | (simp; done) | (simp; omega) | (simp at *; omega))))))))
              | (refine ⟨w4.heap.size, w4.heap.size + 1, 0, rfl, ?_, ?_, by (repeat (first | (with_reducible assumption) | (with_reducible exact Below.refl _ _) | ((with_reducible refine Below.alloc ?_ ?hsz _); (case hsz => (first | omega | (simp; done) | (simp; omega) | (simp at *; omega)))) | ((with_reducible refine Below.setCell ?_ ?hsz _); (case hsz => (first | omega | (simp; done) | (simp; omega) | (simp at *; omega)))) | (with_reducible refine Below.drew ?_) | (with_reducible refine below_drewN ?_ _) | ((with_reducible refine Below.trans ?_ (Below.mono (by with_reducible assumption) ?hsz)); (case hsz => (first | omega | (simp; done) | (simp; omega) | (simp at *; omega)))))), by omega, by omega⟩
                 · exact (Box2.new w4 (.int .i64 z) (.slice (some ⟨w4.heap.size + 1, 0, none⟩) 0 0) 25).keep (by (repeat (first | (with_reducible assumption) | (with_reducible exact Below.refl _ _) | ((with_reducible refine Below.alloc ?_ ?hsz _); (case hsz => (first | omega | (simp; done) | (simp; omega) | (simp at *; omega)))) | ((with_reducible refine Below.setCell ?_ ?hsz _); (case hsz => (first | omega | (simp; done) | (simp; omega) | (simp at *; omega)))) | (with_reducible refine Below.drew ?_) | (with_reducible refine below_drewN ?_ _) | ((with_reducible refine Below.trans ?_ (Below.mono (by with_reducible assumption) ?hsz)); (case hsz => (first | omega | (simp; done) | (simp; omega) | (simp at *; omega)))))))
                 · have h := own_keep (World.ownsRow_lit (e := 45) (base := w4.heap.size) (size := 5) (w4.alloc (.cells #[.int .i64 z, .slice (some ⟨w4.heap.size + 1, 0, none⟩) 0 0] 25)) #[] 0 (by simp) (by simp [maxLen]) rfl) (Nat.le_refl _) (Below.drew (Below.refl _ _))
                   rw [World.size_alloc] at h
                   exact h))
        · go_region
          all_goals
            go_wp2_with fail
            go_meet
            (first
              | (refine ⟨w4.heap.size + 1, w4.heap.size, 0, rfl, ?_, ?_, by (repeat (first | (with_reducible assumption) | (with_reducible exact Below.refl _ _) | ((with_reducible refine Below.alloc ?_ ?hsz _); (case hsz => (first | omega | (simp; done) | (simp; omega) | (simp at *; omega)))) | ((with_reducible refine Below.setCell ?_ ?hsz _); (case hsz => (first | omega | (simp; done) | (simp; omega) | (simp at *; omega)))) | (with_reducible refine Below.drew ?_) | (with_reducible refine below_drewN ?_ _) | ((with_reducible refine Below.trans ?_ (Below.mono (by with_reducible assumption) ?hsz)); (case hsz => (first | omega | (simp; done) | (simp; omega) | (simp at *; omega)))))), by omega, by omega⟩
                 · have h := (Box2.new (w4.alloc (.cells #[] 45)) (.int .i64 z) (.slice (some ⟨w4.heap.size, 0, none⟩) 0 0) 25).keep (Below.drew (Below.refl _ _))
                   rw [World.size_alloc] at h
                   exact h
                 · exact own_keep (World.ownsRow_lit (e := 45) (base := w4.heap.size) (size := 5) w4 #[] 0 (Nat.le_refl _) (by simp [maxLen]) rfl) (Nat.le_refl _) (by (repeat (first | (with_reducible assumption) | (with_reducible exact Below.refl _ _) | ((with_reducible refine Below.alloc ?_ ?hsz _); (case hsz => (first | omega | (simp; done) | (simp; omega) | (simp at *; omega)))) | ((with_reducible refine Below.setCell ?_ ?hsz _); (case hsz => (first | omega | (simp; done) | (simp; omega) | (simp at *; omega)))) | (with_reducible refine Below.drew ?_) | (with_reducible refine below_drewN ?_ _) | ((with_reducible refine Below.trans ?_ (Below.mono (by with_reducible assumption) ?hsz)); (case hsz => (first | omega | (simp; done) | (simp; omega) | (simp at *; omega))))))))
              | (refine ⟨w4.heap.size, w4.heap.size + 1, 0, rfl, ?_, ?_, by (repeat (first | (with_reducible assumption) | (with_reducible exact Below.refl _ _) | ((with_reducible refine Below.alloc ?_ ?hsz _); (case hsz => (first | omega | (simp; done) | (simp; omega) | (simp at *; omega)))) | ((with_reducible refine Below.setCell ?_ ?hsz _); (case hsz => (first | omega | (simp; done) | (simp; omega) | (simp at *; omega)))) | (with_reducible refine Below.drew ?_) | (with_reducible refine below_drewN ?_ _) | ((with_reducible refine Below.trans ?_ (Below.mono (by with_reducible assumption) ?hsz)); (case hsz => (first | omega | (simp; done) | (simp; omega) | (simp at *; omega)))))), by omega, by omega⟩
                 · exact (Box2.new w4 (.int .i64 z) (.slice (some ⟨w4.heap.size + 1, 0, none⟩) 0 0) 25).keep (by (repeat (first | (with_reducible assumption) | (with_reducible exact Below.refl _ _) | ((with_reducible refine Below.alloc ?_ ?hsz _); (case hsz => (first | omega | (simp; done) | (simp; omega) | (simp at *; omega)))) | ((with_reducible refine Below.setCell ?_ ?hsz _); (case hsz => (first | omega | (simp; done) | (simp; omega) | (simp at *; omega)))) | (with_reducible refine Below.drew ?_) | (with_reducible refine below_drewN ?_ _) | ((with_reducible refine Below.trans ?_ (Below.mono (by with_reducible assumption) ?hsz)); (case hsz => (first | omega | (simp; done) | (simp; omega) | (simp at *; omega)))))))
                 · have h := own_keep (World.ownsRow_lit (e := 45) (base := w4.heap.size) (size := 5) (w4.alloc (.cells #[.int .i64 z, .slice (some ⟨w4.heap.size + 1, 0, none⟩) 0 0] 25)) #[] 0 (by simp) (by simp [maxLen]) rfl) (Nat.le_refl _) (Below.drew (Below.refl _ _))
                   rw [World.size_alloc] at h
                   exact h))
      · dsimp only [List.length_cons] at d1 ⊢
        have hp4 := hp.keep hB4
        obtain ⟨gA, rfl, gA1, gA2, -⟩ := hp4.cellAt (Below.refl _ _) 0 (by simp)
        have hl7 := (netOk_parts hok).2.2.1
        have hl7' : qs.length + 1 ≤ 7 := by simpa using hl7
        have hsrcA := (hp4.keep (w' := (w4.alloc (.cells #[] 45)).drew) (by (repeat (first | (with_reducible assumption) | (with_reducible exact Below.refl _ _) | ((with_reducible refine Below.alloc ?_ ?hsz _); (case hsz => (first | omega | (simp; done) | (simp; omega) | (simp at *; omega)))) | ((with_reducible refine Below.setCell ?_ ?hsz _); (case hsz => (first | omega | (simp; done) | (simp; omega) | (simp at *; omega)))) | (with_reducible refine Below.drew ?_) | (with_reducible refine below_drewN ?_ _) | ((with_reducible refine Below.trans ?_ (Below.mono (by with_reducible assumption) ?hsz)); (case hsz => (first | omega | (simp; done) | (simp; omega) | (simp at *; omega)))))))).1
        have hownA := own_keep (World.ownsRow_lit (e := 45) (base := w4.heap.size) (size := 5) w4 #[] 0 (Nat.le_refl _) (by simp [maxLen]) rfl) (Nat.le_refl _) (Below.drew (Below.refl _ _))
        have hsrcB := (hp4.keep (w' := ((w4.alloc (.cells #[] 45)).alloc (.cells #[.int .i64 0, .slice none 0 0] 25)).drew) (by (repeat (first | (with_reducible assumption) | (with_reducible exact Below.refl _ _) | ((with_reducible refine Below.alloc ?_ ?hsz _); (case hsz => (first | omega | (simp; done) | (simp; omega) | (simp at *; omega)))) | ((with_reducible refine Below.setCell ?_ ?hsz _); (case hsz => (first | omega | (simp; done) | (simp; omega) | (simp at *; omega)))) | (with_reducible refine Below.drew ?_) | (with_reducible refine below_drewN ?_ _) | ((with_reducible refine Below.trans ?_ (Below.mono (by with_reducible assumption) ?hsz)); (case hsz => (first | omega | (simp; done) | (simp; omega) | (simp at *; omega)))))))).1
        have hownB := own_keep (w' := ((w4.alloc (.cells #[] 45)).alloc (.cells #[.int .i64 0, .slice none 0 0] 25)).drew) (World.ownsRow_lit (e := 45) (base := w4.heap.size) (size := 5) w4 #[] 0 (Nat.le_refl _) (by simp [maxLen]) rfl) (Nat.le_refl _) (Below.drew (Below.alloc (Below.refl _ _) (Nat.le_refl _) _))
        have hsrcC := (hp4.keep (w' := ((w4.alloc (.cells #[.int .i64 0, .slice none 0 0] 25)).alloc (.cells #[] 45)).drew) (by (repeat (first | (with_reducible assumption) | (with_reducible exact Below.refl _ _) | ((with_reducible refine Below.alloc ?_ ?hsz _); (case hsz => (first | omega | (simp; done) | (simp; omega) | (simp at *; omega)))) | ((with_reducible refine Below.setCell ?_ ?hsz _); (case hsz => (first | omega | (simp; done) | (simp; omega) | (simp at *; omega)))) | (with_reducible refine Below.drew ?_) | (with_reducible refine below_drewN ?_ _) | ((with_reducible refine Below.trans ?_ (Below.mono (by with_reducible assumption) ?hsz)); (case hsz => (first | omega | (simp; done) | (simp; omega) | (simp at *; omega)))))))).1
        have hownC := own_keep (World.ownsRow_lit (e := 45) (base := w4.heap.size) (size := 5) (w4.alloc (.cells #[.int .i64 0, .slice none 0 0] 25)) #[] 0 (by simp) (by simp [maxLen]) rfl) (Nat.le_refl _) (Below.drew (Below.refl _ _))
        rw [World.size_alloc] at hownC
        have hone : ∀ u ∈ (p :: qs).flatMap Pp.cells, u.oneCell' = true := by
          intro u hu
          obtain ⟨y, -, hy⟩ := List.mem_flatMap.1 hu
          simp only [Pp.cells, List.mem_cons, List.not_mem_nil, or_false] at hy
          rcases hy with rfl | rfl | rfl | rfl | rfl <;> rfl
        go_region_held3 (fun w' => w'.cell? ⟨w1.heap.size, 0, none⟩ = some (.int .i64 z) ∧ w'.cell? ⟨w1.heap.size, 1, none⟩ = some (.slice (some ⟨gA, 0, none⟩) (qs.length + 1) c1)) (first | exact ⟨z0, z1⟩ | go_keep | (go_split_ands; (refine ⟨?_, ?_⟩ <;> ((repeat (first | (with_reducible assumption) | ((with_reducible refine (Below.cell (by with_reducible assumption) ?hsz).trans ?_); (case hsz => (first | omega | (simp; done) | (simp; omega) | (simp at *; omega)))) | ((with_reducible refine (World.cell?_alloc_lt _ _ _ ?hsz).trans ?_); (case hsz => (first | omega | (simp; done) | (simp; omega) | (simp at *; omega)))) | ((with_reducible refine (World.cell?_setCell_other _ _ _ _ ?hsz).trans ?_); (case hsz => (intro h; injection h with h1 h2; omega))))); done))) | (go_split_ands; (refine ⟨?_, ?_⟩ <;> first | (with_reducible assumption) | (with_reducible refine cell_drew ?_; with_reducible assumption) | (refine cell_keep ?_ (by with_reducible assumption); with_reducible assumption)))) (first
          | (refine step_append_lies _ rfl _ _ 23 rfl w4.heap.size 45 i0' _ 5 40 Try.underlying23 hi0' hz0 hz1' hz2' rfl (by omega) (.slice (some ⟨w4.heap.size, 0, none⟩) 0 0) 0 [] rfl (by first | exact hownA) ⟨gA, 0, none⟩ (p :: qs).length c1 ((p :: qs).flatMap Pp.cells) rfl (flat_len _) (by first | exact news_cells hsrcA | (intro j u hj; exact news_cells hsrcA j u hj)) hone (by simp) (by unfold maxLen; simp; omega) (by simp; omega) (by simp) _ rfl ?_; intro g2 k2 w7 hown7 hgr7 hat7 hlt7; have bx7 := (bx4.keep (w' := (w4.alloc (.cells #[] 45)).drew) (by (repeat (first | (with_reducible assumption) | (with_reducible exact Below.refl _ _) | ((with_reducible refine Below.alloc ?_ ?hsz _); (case hsz => (first | omega | (simp; done) | (simp; omega) | (simp at *; omega)))) | ((with_reducible refine Below.setCell ?_ ?hsz _); (case hsz => (first | omega | (simp; done) | (simp; omega) | (simp at *; omega)))) | (with_reducible refine Below.drew ?_) | (with_reducible refine below_drewN ?_ _) | ((with_reducible refine Below.trans ?_ (Below.mono (by with_reducible assumption) ?hsz)); (case hsz => (first | omega | (simp; done) | (simp; omega) | (simp at *; omega)))))))).grown hgr7 (by simp [Value.ownBlock]; omega); have hB7 : Below w4.heap.size w4 w7 := Below.grown (w := (w4.alloc (.cells #[] 45)).drew) (by (repeat (first | (with_reducible assumption) | (with_reducible exact Below.refl _ _) | ((with_reducible refine Below.alloc ?_ ?hsz _); (case hsz => (first | omega | (simp; done) | (simp; omega) | (simp at *; omega)))) | ((with_reducible refine Below.setCell ?_ ?hsz _); (case hsz => (first | omega | (simp; done) | (simp; omega) | (simp at *; omega)))) | (with_reducible refine Below.drew ?_) | (with_reducible refine below_drewN ?_ _) | ((with_reducible refine Below.trans ?_ (Below.mono (by with_reducible assumption) ?hsz)); (case hsz => (first | omega | (simp; done) | (simp; omega) | (simp at *; omega))))))) hgr7 (by simp; try omega) (fun q hq => by have hq' : w4.heap.size = q := (by injection hq); omega); have hs7 := hB7.size; obtain ⟨bs7, z0, z1, z2, z3⟩ := id bx7)
          | (refine step_append_lies _ rfl _ _ 23 rfl w4.heap.size 45 i0' _ 5 40 Try.underlying23 hi0' hz0 hz1' hz2' rfl (by omega) (.slice (some ⟨w4.heap.size, 0, none⟩) 0 0) 0 [] rfl (by first | exact hownB) ⟨gA, 0, none⟩ (p :: qs).length c1 ((p :: qs).flatMap Pp.cells) rfl (flat_len _) (by first | exact news_cells hsrcB | (intro j u hj; exact news_cells hsrcB j u hj)) hone (by simp) (by unfold maxLen; simp; omega) (by simp; omega) (by simp; omega) _ rfl ?_; intro g2 k2 w7 hown7 hgr7 hat7 hlt7; have bx7 := (bx4.keep (w' := ((w4.alloc (.cells #[] 45)).alloc (.cells #[.int .i64 0, .slice none 0 0] 25)).drew) (by (repeat (first | (with_reducible assumption) | (with_reducible exact Below.refl _ _) | ((with_reducible refine Below.alloc ?_ ?hsz _); (case hsz => (first | omega | (simp; done) | (simp; omega) | (simp at *; omega)))) | ((with_reducible refine Below.setCell ?_ ?hsz _); (case hsz => (first | omega | (simp; done) | (simp; omega) | (simp at *; omega)))) | (with_reducible refine Below.drew ?_) | (with_reducible refine below_drewN ?_ _) | ((with_reducible refine Below.trans ?_ (Below.mono (by with_reducible assumption) ?hsz)); (case hsz => (first | omega | (simp; done) | (simp; omega) | (simp at *; omega)))))))).grown hgr7 (by simp [Value.ownBlock]; omega); have hB7 : Below w4.heap.size w4 w7 := Below.grown (w := ((w4.alloc (.cells #[] 45)).alloc (.cells #[.int .i64 0, .slice none 0 0] 25)).drew) (by (repeat (first | (with_reducible assumption) | (with_reducible exact Below.refl _ _) | ((with_reducible refine Below.alloc ?_ ?hsz _); (case hsz => (first | omega | (simp; done) | (simp; omega) | (simp at *; omega)))) | ((with_reducible refine Below.setCell ?_ ?hsz _); (case hsz => (first | omega | (simp; done) | (simp; omega) | (simp at *; omega)))) | (with_reducible refine Below.drew ?_) | (with_reducible refine below_drewN ?_ _) | ((with_reducible refine Below.trans ?_ (Below.mono (by with_reducible assumption) ?hsz)); (case hsz => (first | omega | (simp; done) | (simp; omega) | (simp at *; omega))))))) hgr7 (by simp; try omega) (fun q hq => by have hq' : w4.heap.size = q := (by injection hq); omega); have hs7 := hB7.size; obtain ⟨bs7, z0, z1, z2, z3⟩ := id bx7; have nbx := ((Box2.new (w4.alloc (.cells #[] 45)) (.int .i64 0) (.slice none 0 0) 25).keep (w' := ((w4.alloc (.cells #[] 45)).alloc (.cells #[.int .i64 0, .slice none 0 0] 25)).drew) (Below.drew (Below.refl _ _))).grown hgr7 (by simp [Value.ownBlock]); rw [World.size_alloc] at nbx; obtain ⟨ns, y0, y1, y2, y3⟩ := id nbx; have hne : g2 ≠ w4.heap.size + 1 := (by rcases hat7 with h | h <;> first | (have hq : w4.heap.size = g2 := (by injection h); omega) | (simp at h; omega)))
          | (refine step_append_lies _ rfl _ _ 23 rfl w4.heap.size 45 i0' _ 5 40 Try.underlying23 hi0' hz0 hz1' hz2' rfl (by omega) (.slice (some ⟨w4.heap.size + 1, 0, none⟩) 0 0) 0 [] rfl (by first | exact hownA) ⟨gA, 0, none⟩ (p :: qs).length c1 ((p :: qs).flatMap Pp.cells) rfl (flat_len _) (by first | exact news_cells hsrcA | (intro j u hj; exact news_cells hsrcA j u hj)) hone (by simp) (by unfold maxLen; simp; omega) (by simp; omega) (by simp) _ rfl ?_; intro g2 k2 w7 hown7 hgr7 hat7 hlt7; have bx7 := (bx4.keep (w' := (w4.alloc (.cells #[] 45)).drew) (by (repeat (first | (with_reducible assumption) | (with_reducible exact Below.refl _ _) | ((with_reducible refine Below.alloc ?_ ?hsz _); (case hsz => (first | omega | (simp; done) | (simp; omega) | (simp at *; omega)))) | ((with_reducible refine Below.setCell ?_ ?hsz _); (case hsz => (first | omega | (simp; done) | (simp; omega) | (simp at *; omega)))) | (with_reducible refine Below.drew ?_) | (with_reducible refine below_drewN ?_ _) | ((with_reducible refine Below.trans ?_ (Below.mono (by with_reducible assumption) ?hsz)); (case hsz => (first | omega | (simp; done) | (simp; omega) | (simp at *; omega)))))))).grown hgr7 (by simp [Value.ownBlock]; omega); have hB7 : Below w4.heap.size w4 w7 := Below.grown (w := (w4.alloc (.cells #[] 45)).drew) (by (repeat (first | (with_reducible assumption) | (with_reducible exact Below.refl _ _) | ((with_reducible refine Below.alloc ?_ ?hsz _); (case hsz => (first | omega | (simp; done) | (simp; omega) | (simp at *; omega)))) | ((with_reducible refine Below.setCell ?_ ?hsz _); (case hsz => (first | omega | (simp; done) | (simp; omega) | (simp at *; omega)))) | (with_reducible refine Below.drew ?_) | (with_reducible refine below_drewN ?_ _) | ((with_reducible refine Below.trans ?_ (Below.mono (by with_reducible assumption) ?hsz)); (case hsz => (first | omega | (simp; done) | (simp; omega) | (simp at *; omega))))))) hgr7 (by simp; try omega) (fun q hq => by have hq' : w4.heap.size = q := (by injection hq); omega); have hs7 := hB7.size; obtain ⟨bs7, z0, z1, z2, z3⟩ := id bx7)
          | (refine step_append_lies _ rfl _ _ 23 rfl w4.heap.size 45 i0' _ 5 40 Try.underlying23 hi0' hz0 hz1' hz2' rfl (by omega) (.slice (some ⟨w4.heap.size + 1, 0, none⟩) 0 0) 0 [] rfl (by first | exact hownC) ⟨gA, 0, none⟩ (p :: qs).length c1 ((p :: qs).flatMap Pp.cells) rfl (flat_len _) (by first | exact news_cells hsrcC | (intro j u hj; exact news_cells hsrcC j u hj)) hone (by simp) (by unfold maxLen; simp; omega) (by simp; omega) (by simp; omega) _ rfl ?_; intro g2 k2 w7 hown7 hgr7 hat7 hlt7; have bx7 := (bx4.keep (w' := ((w4.alloc (.cells #[.int .i64 0, .slice none 0 0] 25)).alloc (.cells #[] 45)).drew) (by (repeat (first | (with_reducible assumption) | (with_reducible exact Below.refl _ _) | ((with_reducible refine Below.alloc ?_ ?hsz _); (case hsz => (first | omega | (simp; done) | (simp; omega) | (simp at *; omega)))) | ((with_reducible refine Below.setCell ?_ ?hsz _); (case hsz => (first | omega | (simp; done) | (simp; omega) | (simp at *; omega)))) | (with_reducible refine Below.drew ?_) | (with_reducible refine below_drewN ?_ _) | ((with_reducible refine Below.trans ?_ (Below.mono (by with_reducible assumption) ?hsz)); (case hsz => (first | omega | (simp; done) | (simp; omega) | (simp at *; omega)))))))).grown hgr7 (by simp [Value.ownBlock]; omega); have hB7 : Below w4.heap.size w4 w7 := Below.grown (w := ((w4.alloc (.cells #[.int .i64 0, .slice none 0 0] 25)).alloc (.cells #[] 45)).drew) (by (repeat (first | (with_reducible assumption) | (with_reducible exact Below.refl _ _) | ((with_reducible refine Below.alloc ?_ ?hsz _); (case hsz => (first | omega | (simp; done) | (simp; omega) | (simp at *; omega)))) | ((with_reducible refine Below.setCell ?_ ?hsz _); (case hsz => (first | omega | (simp; done) | (simp; omega) | (simp at *; omega)))) | (with_reducible refine Below.drew ?_) | (with_reducible refine below_drewN ?_ _) | ((with_reducible refine Below.trans ?_ (Below.mono (by with_reducible assumption) ?hsz)); (case hsz => (first | omega | (simp; done) | (simp; omega) | (simp at *; omega))))))) hgr7 (by simp; try omega) (fun q hq => by have hq' : w4.heap.size + 1 = q := (by injection hq); omega); have hs7 := hB7.size; obtain ⟨bs7, z0, z1, z2, z3⟩ := id bx7; have nbx := ((Box2.new w4 (.int .i64 0) (.slice none 0 0) 25).keep (w' := ((w4.alloc (.cells #[.int .i64 0, .slice none 0 0] 25)).alloc (.cells #[] 45)).drew) (Below.drew (Below.alloc (Below.refl _ _) (Nat.le_refl _) _))).grown hgr7 (by simp [Value.ownBlock]); obtain ⟨ns, y0, y1, y2, y3⟩ := id nbx; have hne : g2 ≠ w4.heap.size := (by rcases hat7 with h | h <;> first | (have hq : w4.heap.size + 1 = g2 := (by injection h); omega) | (simp at h; omega))))
        all_goals
          go_wp2_with fail
          go_meet
          case rel =>
            rw [Nat.zero_add, List.nil_append] at hown7
            have hs7 := hB7.size
            dsimp only [List.length_cons] at hown7 ⊢
            refine ⟨_, g2, k2, rfl, ?_, ?_, by (repeat (first | (with_reducible assumption) | (with_reducible exact Below.refl _ _) | ((with_reducible refine Below.alloc ?_ ?hsz _); (case hsz => (first | omega | (simp; done) | (simp; omega) | (simp at *; omega)))) | ((with_reducible refine Below.setCell ?_ ?hsz _); (case hsz => (first | omega | (simp; done) | (simp; omega) | (simp at *; omega)))) | (with_reducible refine Below.drew ?_) | (with_reducible refine below_drewN ?_ _) | ((with_reducible refine Below.trans ?_ (Below.mono (by with_reducible assumption) ?hsz)); (case hsz => (first | omega | (simp; done) | (simp; omega) | (simp at *; omega)))))), ?_, ?_⟩
            · first
                | exact Box2.new _ _ _ _
                | exact (nbx.set0 _).set1 _
                | exact (Box2.new _ _ _ _).keep (by (repeat (first | (with_reducible assumption) | (with_reducible exact Below.refl _ _) | ((with_reducible refine Below.alloc ?_ ?hsz _); (case hsz => (first | omega | (simp; done) | (simp; omega) | (simp at *; omega)))) | ((with_reducible refine Below.setCell ?_ ?hsz _); (case hsz => (first | omega | (simp; done) | (simp; omega) | (simp at *; omega)))) | (with_reducible refine Below.drew ?_) | (with_reducible refine below_drewN ?_ _) | ((with_reducible refine Below.trans ?_ (Below.mono (by with_reducible assumption) ?hsz)); (case hsz => (first | omega | (simp; done) | (simp; omega) | (simp at *; omega)))))))
                | exact ((nbx.set0 _).set1 _).keep (by (repeat (first | (with_reducible assumption) | (with_reducible exact Below.refl _ _) | ((with_reducible refine Below.alloc ?_ ?hsz _); (case hsz => (first | omega | (simp; done) | (simp; omega) | (simp at *; omega)))) | ((with_reducible refine Below.setCell ?_ ?hsz _); (case hsz => (first | omega | (simp; done) | (simp; omega) | (simp at *; omega)))) | (with_reducible refine Below.drew ?_) | (with_reducible refine below_drewN ?_ _) | ((with_reducible refine Below.trans ?_ (Below.mono (by with_reducible assumption) ?hsz)); (case hsz => (first | omega | (simp; done) | (simp; omega) | (simp at *; omega)))))))
                | exact ((nbx.set1 _).set0 _).keep (by (repeat (first | (with_reducible assumption) | (with_reducible exact Below.refl _ _) | ((with_reducible refine Below.alloc ?_ ?hsz _); (case hsz => (first | omega | (simp; done) | (simp; omega) | (simp at *; omega)))) | ((with_reducible refine Below.setCell ?_ ?hsz _); (case hsz => (first | omega | (simp; done) | (simp; omega) | (simp at *; omega)))) | (with_reducible refine Below.drew ?_) | (with_reducible refine below_drewN ?_ _) | ((with_reducible refine Below.trans ?_ (Below.mono (by with_reducible assumption) ?hsz)); (case hsz => (first | omega | (simp; done) | (simp; omega) | (simp at *; omega)))))))
            · first
                | exact hown7.alloc _
                | exact ownsRow_setCell_other (ownsRow_setCell_other hown7 (by intro h; have hq : g2 = _ := (by injection h); exact hne hq) _) (by intro h; have hq : g2 = _ := (by injection h); exact hne hq) _
            · first | omega | (simp; done) | (simp; omega)
            · first | (exact fun h => hne h.symm) | omega
    case rest =>
      obtain ⟨b9, g2, k2, rfl, hbox, hown, hbx, hb9, hbg⟩ := hcut
      have bxc := bx4.keep hbx
      have hBc : Below w1.heap.size w1 wc := hB4.trans (hbx.mono hB4.size)
      have hzc := hbx.size
      clear d0 d1 g0 g1
      obtain ⟨bs', d0, d1, g0, g1⟩ := id bxc
      obtain ⟨ns, y0, y1, y2, y3⟩ := id hbox
      rcases ps with _ | ⟨p, qs⟩
      · dsimp only [List.length_nil] at y1 d1 hp
        have hpc : Pipes wc w4.heap.size (.slice (some ⟨g2, 0, none⟩) 0 k2) [] := ⟨hown, by simp [small]⟩
        go_wp2_with fail
        with_reducible refine (greatestValue_any z i j _ ([]) _ _ (hpc)).mono ?_
        rintro e w6 ⟨rfl, hnn⟩
        have bx6 := (bxc).keep hnn
        have hB6 : Below w1.heap.size w1 w6 := Below.trans (hBc) (Below.mono hnn (Below.size (hBc)))
        clear hnn
        (try clear d0 d1 g0 g1)
        obtain ⟨bs6, d0, d1, g0, g1⟩ := id bx6
        have hM := (show greatV z [] i j < 0 ∨ greatV z [] i j = G ∨ greatV z [] i j = G + 1 from .inr (.inl HT.out.2.1))
        generalize greatV z ([]) i j = M at *
        go_wp2_with fail
        with_reducible refine (turned_any z _ ([]) _ _ (hp.keep hB6)).mono ?_
        rintro e w8 ⟨sT, rfl, hT8, hnn⟩
        rw [(turn_yes hok).2] at hT8
        rw [(turn_yes hok).1]
        have bx8 := bx6.keep hnn
        have hB8 : Below w1.heap.size w1 w8 := hB6.trans (hnn.mono hB6.size)
        clear hnn
        (try clear d0 d1 g0 g1)
        obtain ⟨bs8, d0, d1, g0, g1⟩ := id bx8
        go_wp2_with fail
        with_reducible refine (greatestValue_any z j i _ (([]).map turnP) _ _ hT8).mono ?_
        rintro e w9 ⟨rfl, hnn⟩
        have bx9 := bx8.keep hnn
        have hB9 : Below w1.heap.size w1 w9 := hB8.trans (hnn.mono hB8.size)
        clear hnn
        (try clear d0 d1 g0 g1)
        obtain ⟨bs9, d0, d1, g0, g1⟩ := id bx9
        rw [HT.out.1]
        rcases hM with h | h | h
        · have h1 : decide (M < 0) = true := decide_eq_true h
          clear h
          go_wp2
          (go_ret; exact ⟨rfl, hBw1.trans (Below.mono (by with_reducible assumption) hBw1.size)⟩)
        · subst h
          have h1 : decide (M < 0) = false := decide_eq_false (by omega)
          go_wp2
          (go_ret; exact ⟨rfl, hBw1.trans (Below.mono (by with_reducible assumption) hBw1.size)⟩)
        · subst h
          have h1 : decide (G + 1 < 0) = false := decide_eq_false (by omega)
          have h2 : (G + 1 == G) = false := by rw [beq_eq_false_iff_ne]; omega
          go_wp2
          (go_ret; exact ⟨rfl, hBw1.trans (Below.mono (by with_reducible assumption) hBw1.size)⟩)
      · have hmr := more_of HT.out.2.2
        rw [HT.out.2.1] at hmr
        obtain ⟨-, -, -, -, -, m2, m0, m1, -, -⟩ := pipeOk_parts ((netOk_parts hok).2.2.2 p (by simp))
        have hlen1 : (p :: qs).length = qs.length + 1 := rfl
        rw [hlen1] at y1 d1 hown hp
        obtain ⟨hgw, ⟨-, -, -, o3, -⟩, hof⟩ := own_cells5 (k := 0) hown (by simp)
        have o3' : wc.cell? ⟨g2, 3, none⟩ = some (.int .i64 p.mo) := by simpa using o3
        have hof3 := hof 3
        have hmw : wrap64 (p.mo + 1) = p.mo + 1 := by unfold wrap64; omega
        have hst := (hown.stored 3 (.int .i64 (p.mo + 1))).1
        have hset : ((p :: qs).flatMap Pp.cells).set 3 (.int .i64 (p.mo + 1)) = (moreP p :: qs).flatMap Pp.cells := by
          simp [List.flatMap_cons, Pp.cells, moreP]
        rw [hset] at hst
        have hl7' : qs.length + 1 ≤ 7 := hl7
        have hpc : Pipes (wc.setCell ⟨g2, 3, none⟩ (.int .i64 (p.mo + 1))) w4.heap.size (.slice (some ⟨g2, 0, none⟩) (qs.length + 1) k2) (moreP p :: qs) := ⟨hst, by simp [small]; omega⟩
        have Hpc := Lib.hid hpc
        have Hown := Lib.hid hown
        clear hpc hst hset hown o3 hof
        have bxm := bxc.far (p := ⟨g2, 3, none⟩) (by have := (Hown.out.lt g2 rfl).1; simp; omega) (.int .i64 (p.mo + 1))
        have hBm : Below w1.heap.size w1 (wc.setCell ⟨g2, 3, none⟩ (.int .i64 (p.mo + 1))) := Below.setCell hBc (by have := (Hown.out.lt g2 rfl).1; simp; omega) _
        go_wp2_with fail
        go_region
        go_wp2_with fail
        with_reducible refine (greatestValue_any z i j _ ((moreP p :: qs)) _ _ ((Hpc.out.keep (by (repeat (first | (with_reducible assumption) | (with_reducible exact Below.refl _ _) | ((with_reducible refine Below.alloc ?_ ?hsz _); (case hsz => (first | omega | (simp; done) | (simp; omega) | (simp at *; omega)))) | ((with_reducible refine Below.setCell ?_ ?hsz _); (case hsz => (first | omega | (simp; done) | (simp; omega) | (simp at *; omega)))) | (with_reducible refine Below.drew ?_) | (with_reducible refine below_drewN ?_ _) | ((with_reducible refine Below.trans ?_ (Below.mono (by with_reducible assumption) ?hsz)); (case hsz => (first | omega | (simp; done) | (simp; omega) | (simp at *; omega)))))))))).mono ?_
        rintro e w6 ⟨rfl, hnn⟩
        have bx6 := ((bxm.keep (by (repeat (first | (with_reducible assumption) | (with_reducible exact Below.refl _ _) | ((with_reducible refine Below.alloc ?_ ?hsz _); (case hsz => (first | omega | (simp; done) | (simp; omega) | (simp at *; omega)))) | ((with_reducible refine Below.setCell ?_ ?hsz _); (case hsz => (first | omega | (simp; done) | (simp; omega) | (simp at *; omega)))) | (with_reducible refine Below.drew ?_) | (with_reducible refine below_drewN ?_ _) | ((with_reducible refine Below.trans ?_ (Below.mono (by with_reducible assumption) ?hsz)); (case hsz => (first | omega | (simp; done) | (simp; omega) | (simp at *; omega))))))))).keep hnn
        have hB6 : Below w1.heap.size w1 w6 := Below.trans ((hBm.trans (by (repeat (first | (with_reducible assumption) | (with_reducible exact Below.refl _ _) | ((with_reducible refine Below.alloc ?_ ?hsz _); (case hsz => (first | omega | (simp; done) | (simp; omega) | (simp at *; omega)))) | ((with_reducible refine Below.setCell ?_ ?hsz _); (case hsz => (first | omega | (simp; done) | (simp; omega) | (simp at *; omega)))) | (with_reducible refine Below.drew ?_) | (with_reducible refine below_drewN ?_ _) | ((with_reducible refine Below.trans ?_ (Below.mono (by with_reducible assumption) ?hsz)); (case hsz => (first | omega | (simp; done) | (simp; omega) | (simp at *; omega))))))))) (Below.mono hnn (Below.size ((hBm.trans (by (repeat (first | (with_reducible assumption) | (with_reducible exact Below.refl _ _) | ((with_reducible refine Below.alloc ?_ ?hsz _); (case hsz => (first | omega | (simp; done) | (simp; omega) | (simp at *; omega)))) | ((with_reducible refine Below.setCell ?_ ?hsz _); (case hsz => (first | omega | (simp; done) | (simp; omega) | (simp at *; omega)))) | (with_reducible refine Below.drew ?_) | (with_reducible refine below_drewN ?_ _) | ((with_reducible refine Below.trans ?_ (Below.mono (by with_reducible assumption) ?hsz)); (case hsz => (first | omega | (simp; done) | (simp; omega) | (simp at *; omega)))))))))))
        clear hnn
        (try clear d0 d1 g0 g1)
        obtain ⟨bs6, d0, d1, g0, g1⟩ := id bx6
        have hM := hmr
        generalize greatV z ((moreP p :: qs)) i j = M at *
        go_wp2_with fail
        with_reducible refine (turned_any z _ ((p :: qs)) _ _ (hp.keep hB6)).mono ?_
        rintro e w8 ⟨sT, rfl, hT8, hnn⟩
        rw [(turn_yes hok).2] at hT8
        rw [(turn_yes hok).1]
        have bx8 := bx6.keep hnn
        have hB8 : Below w1.heap.size w1 w8 := hB6.trans (hnn.mono hB6.size)
        clear hnn
        (try clear d0 d1 g0 g1)
        obtain ⟨bs8, d0, d1, g0, g1⟩ := id bx8
        go_wp2_with fail
        with_reducible refine (greatestValue_any z j i _ (((p :: qs)).map turnP) _ _ hT8).mono ?_
        rintro e w9 ⟨rfl, hnn⟩
        have bx9 := bx8.keep hnn
        have hB9 : Below w1.heap.size w1 w9 := hB8.trans (hnn.mono hB8.size)
        clear hnn
        (try clear d0 d1 g0 g1)
        obtain ⟨bs9, d0, d1, g0, g1⟩ := id bx9
        rw [HT.out.1]
        rcases hM with h | h | h
        · have h1 : decide (M < 0) = true := decide_eq_true h
          clear h
          go_wp2
          (go_ret; exact ⟨rfl, hBw1.trans (Below.mono (by with_reducible assumption) hBw1.size)⟩)
        · subst h
          have h1 : decide (M < 0) = false := decide_eq_false (by omega)
          go_wp2
          (go_ret; exact ⟨rfl, hBw1.trans (Below.mono (by with_reducible assumption) hBw1.size)⟩)
        · subst h
          have h1 : decide (G + 1 < 0) = false := decide_eq_false (by omega)
          have h2 : (G + 1 == G) = false := by rw [beq_eq_false_iff_ne]; omega
          go_wp2
          (go_ret; exact ⟨rfl, hBw1.trans (Below.mono (by with_reducible assumption) hBw1.size)⟩)
  · have hg' : greatB z ps i j = false := by simpa using hg
    have hv : greatV z ps i j = -1 := by rw [greatV, if_neg hg]
    rw [hv]
    go_wp2_with fail
    with_reducible refine (alive_any _).mono ?_
    rintro e w4 ⟨rfl, hnn⟩
    have bx4 := (bx3).keep hnn
    have hB4 : Below w1.heap.size w1 w4 := by (repeat (first | (with_reducible assumption) | (with_reducible exact Below.refl _ _) | ((with_reducible refine Below.alloc ?_ ?hsz _); (case hsz => (first | omega | (simp; done) | (simp; omega) | (simp at *; omega)))) | ((with_reducible refine Below.setCell ?_ ?hsz _); (case hsz => (first | omega | (simp; done) | (simp; omega) | (simp at *; omega)))) | (with_reducible refine Below.drew ?_) | (with_reducible refine below_drewN ?_ _) | ((with_reducible refine Below.trans ?_ (Below.mono (by with_reducible assumption) ?hsz)); (case hsz => (first | omega | (simp; done) | (simp; omega) | (simp at *; omega))))))
    clear hnn
    (try clear d0 d1 g0 g1)
    obtain ⟨bs, d0, d1, g0, g1⟩ := id bx4
    go_wp2
    (go_ret; exact ⟨rfl, hBw1.trans (Below.mono (by with_reducible assumption) hBw1.size)⟩)

set_option maxRecDepth 100000 in
theorem contract (H : Type) (enc : TypeId × Value → H) (W : World) (base : Nat) (args : Array Value) (ds gs : List (DataW H)) (before : List MemPlace)
    (hval : ∀ (j : Nat) t v, Try.f4.params[j]? = some t → args[j]? = some v → Value.okWide Try.prog W .any base t v)
    (hW : DataW.Whole enc Try.prog Try.f4.params.toList Rows.fnGreatestValueSpec.vars false W args.toList ds gs before) :
    Calls Try.prog 4 args W fun e W' => ∃ v, e = .returned v ∧ Rows.fnGreatestValueSpec.post enc Try.prog Try.f4 false true false false W args v W' := by
  have hW' := hW
  obtain ⟨p, q, hA0, hV, rfl, hfz, hnd⟩ := hW
  have hA : DataW.TrodAll enc Try.prog W 0 (fun _ => true) true Try.f4.params.toList args.toList ds p := hA0
  rw [Try.params4] at hA hval
  obtain ⟨u0, us0, d0, ds0, p0, q0, hargs, rfl, rfl, g0, k0⟩ := trodAll_cons hA
  obtain ⟨rfl, rfl, rfl⟩ := trodAll_nil k0
  obtain rfl : args = #[u0] := by cases args; simp_all
  obtain ⟨rfl, rfl⟩ := trodVars_none hV
  obtain ⟨m0, e0⟩ := g0
  obtain ⟨s0, l0, f0, hh0⟩ := open_arg_bytes e0
  have f0' := one_of_cells Try.underlying22 (hval 0 _ _ rfl rfl) f0
  subst f0'
  refine (walk _ l0 W hh0).mono fun e W' ⟨he, hb⟩ => ?_
  subst he
  exact ⟨_, rfl, law_post Try.kids Try.full (by rw [Try.params4]; decide) rfl rfl Try.underlying4 hW' rfl rfl rfl hb⟩

set_option maxRecDepth 100000 in
theorem lifted (os : Os) (started : os.Started) (H : Type) (enc : TypeId × Value → H) :
    ReturnsInHanded {} Try.checked os 4 .any (Rows.fnGreatestValueSpec.pre6 enc Try.prog Try.f4 Rows.fnGreatestValueRow.domain false) (Rows.fnGreatestValueSpec.post enc Try.prog Try.f4 false true false false) := by
  refine returnsInHanded_of_change (C := Try.checked) Try.own started (by kernel_rfl) Try.func4
    (ChangeSpec.witness6 (enc := enc) (C := Try.checked) false ⟨#[], #[.slice none 0 0], []⟩ 8 (by kernel_rfl) (by kernel_rfl) (by kernel_rfl) (by kernel_rfl)) ?_
  intro W base args ds gs before hval0 hW _ _
  exact contract H enc W base args ds gs before hval0 hW

theorem proved : Rows.FnGreatestValueSaid :=
  OpenClaim.holds_of_wide 4 Try.f4 rfl rfl rfl rfl rfl rfl rfl ⟨rfl, rfl, rfl, rfl, rfl⟩ rfl rfl rfl rfl rfl (by kernel_rfl) Try.func4 (by kernel_rfl)
    (of_decide_eq_true (by kernel_rfl)) (by unfold Func.isWrapper; first | (rw [if_pos (by decide +kernel)]; kernel_rfl) | (rw [if_neg (by decide +kernel)]; exact ⟨rfl, rfl⟩))
    (fun os started H enc _ => lifted os started H enc)

end Go.Proofs.Ytobbeofibkpbaaa.lawGreatestValue
