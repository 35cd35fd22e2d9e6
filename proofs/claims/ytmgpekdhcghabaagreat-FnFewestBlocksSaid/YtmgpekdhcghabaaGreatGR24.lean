/- Plain facts. -/
import Derived.Test.YtmgpekdhcghabaaGreatGR21
import Derived.Test.YtmgpekdhcghabaaGreatGR7
/- Contracts of the functions of chapter 2 in the model: LeavingOf. -/
namespace Go.Proofs.YtmgpekdhcghabaaGreat
open Go.RowKit

theorem Ints_empty' (w : World) (b : Nat) (g : Nat) (hb : b ≤ w.heap.size) (hg : g = w.heap.size) : Ints (w.alloc (.cells #[] 3)) b (.slice (some ⟨g, 0, none⟩) 0 0) [] := by
  subst hg
  exact ⟨World.ownsRow_lit (e := 3) (base := b) (size := 1) w #[] 0 hb (by simp [maxLen]) rfl, Nat.zero_le _⟩

set_option maxHeartbeats 2000000 in
set_option maxRecDepth 20000 in
theorem specLeavingOf_any (n s : Int) (v : Value) (ps : List Pp) (b : Nat) (w : World) (hp : Pipes w b v ps) :
    Calls Tryz.prog 44 #[.agg #[.int .i64 n, v], .int .i64 s] w fun e w' => ∃ r, e = .returned r ∧ Ints w' w.heap.size r (leavingL n ps s) ∧ Below w.heap.size w w' := by
  have hp0 := hp
  obtain ⟨A, c, rfl, hc1, hc2, hsm, hcell⟩ := hp.form
  unfold maxLen at hc2
  by_cases hs : sideB n ps s = true
  · have Hr := Lib.hid (leaving_yes hs)
    obtain ⟨hnok, h4⟩ := side_pos hs
    have Hends := Lib.hid (net_ends hnok)
    have h7 := (netOk_parts hnok).2.2.1
    obtain ⟨i0, hi0, hz0, hz1, hz2⟩ := info_parts int_info
    go_enter Tryz.func44, Tryz.ntmps44
    go_wp2
    go_loopw [6, 5] (fun i t wr => ∃ (k j g1 k1 : Nat), k ≤ ps.length ∧ i = .int .i64 k ∧ t = .slice (some ⟨g1, 0, none⟩) j k1 ∧ (numW k (leavF s ps)).length = j ∧
        wr.ownsRow (w.heap.size + 1) 3 1 (.slice (some ⟨g1, 0, none⟩) j k1) j ((numW k (leavF s ps)).map (Value.int .i64)) ∧ Below w.heap.size w wr ∧ Box2 wr w.heap.size (.int .i64 n) (.slice A ps.length c)) (fun i _ _ => ps.length - (intOf i).toNat)
    case atStart =>
      refine ⟨0, 0, w.heap.size + 1, 0, by omega, rfl, rfl, rfl, ?_, by (repeat (first | (with_reducible assumption) | (with_reducible exact Below.refl _ _) | ((with_reducible refine Below.alloc ?_ ?hsz _); (case hsz => (first | omega | (simp; done) | (simp; omega) | (simp at *; omega)))) | ((with_reducible refine Below.setCell ?_ ?hsz _); (case hsz => (first | omega | (simp; done) | (simp; omega) | (simp at *; omega)))) | (with_reducible refine Below.drew ?_) | (with_reducible refine below_drewN ?_ _) | ((with_reducible refine Below.trans ?_ (Below.mono (by with_reducible assumption) ?hsz)); (case hsz => (first | omega | (simp; done) | (simp; omega) | (simp at *; omega)))))), ?_⟩
      · have h := World.ownsRow_lit (e := 3) (base := w.heap.size + 1) (size := 1) (w.alloc (.cells #[.int .i64 n, .slice A ps.length c] 25)) #[] 0 (by simp) (by simp [maxLen]) rfl
        rw [World.size_alloc] at h
        exact h
      exact (Box2.new w _ _ _).keep (by (repeat (first | (with_reducible assumption) | (with_reducible exact Below.refl _ _) | ((with_reducible refine Below.alloc ?_ ?hsz _); (case hsz => (first | omega | (simp; done) | (simp; omega) | (simp at *; omega)))) | ((with_reducible refine Below.setCell ?_ ?hsz _); (case hsz => (first | omega | (simp; done) | (simp; omega) | (simp at *; omega)))) | (with_reducible refine Below.drew ?_) | (with_reducible refine below_drewN ?_ _) | ((with_reducible refine Below.trans ?_ (Below.mono (by with_reducible assumption) ?hsz)); (case hsz => (first | omega | (simp; done) | (simp; omega) | (simp at *; omega)))))))
    case round =>
      obtain ⟨k, j, g1, k1, hk, rfl, rfl, hj, hown, hb, hbx⟩ := hrel
      have hjk : j ≤ k := by rw [← hj]; exact numW_len k _
      have HJ := Lib.hid hj
      clear hj
      obtain ⟨hzw, d0, d1, -, -⟩ := id hbx
      by_cases hlt : k < ps.length
      · obtain ⟨g, rfl, hg1, hg2, c0, c1, c2, c3, c4⟩ := hcell w (Below.refl _ _) k hlt
        have hends := Hends.out _ (List.getElem_mem hlt)
        have HE := Lib.hid hends
        clear hends
        have hlF := leavF_at (s := s) hlt
        by_cases hf : partsB s ps[k].fr ps[k].to = true
        · rw [hf] at hlF
          have Hf := Lib.hid (numW_yes hlF)
          have O1 := Lib.hid (over_out hf)
          clear hlF hf
          go_wp2_with fail
          refine (specSideOk_any n s _ ps b _ (hp0.keep (by (repeat (first | (with_reducible assumption) | (with_reducible exact Below.refl _ _) | ((with_reducible refine Below.alloc ?_ ?hsz _); (case hsz => (first | omega | (simp; done) | (simp; omega) | (simp at *; omega)))) | ((with_reducible refine Below.setCell ?_ ?hsz _); (case hsz => (first | omega | (simp; done) | (simp; omega) | (simp at *; omega)))) | (with_reducible refine Below.drew ?_) | (with_reducible refine below_drewN ?_ _) | ((with_reducible refine Below.trans ?_ (Below.mono (by with_reducible assumption) ?hsz)); (case hsz => (first | omega | (simp; done) | (simp; omega) | (simp at *; omega))))))))).mono ?_
          rintro e w2 ⟨rfl, hb2⟩
          have hbx2 := hbx.keep hb2
          have hown2 := own_keep hown (Nat.le_refl _) hb2
          have hbw2 : Below w.heap.size w w2 := by (repeat (first | (with_reducible assumption) | (with_reducible exact Below.refl _ _) | ((with_reducible refine Below.alloc ?_ ?hsz _); (case hsz => (first | omega | (simp; done) | (simp; omega) | (simp at *; omega)))) | ((with_reducible refine Below.setCell ?_ ?hsz _); (case hsz => (first | omega | (simp; done) | (simp; omega) | (simp at *; omega)))) | (with_reducible refine Below.drew ?_) | (with_reducible refine below_drewN ?_ _) | ((with_reducible refine Below.trans ?_ (Below.mono (by with_reducible assumption) ?hsz)); (case hsz => (first | omega | (simp; done) | (simp; omega) | (simp at *; omega))))))
          obtain ⟨hzw2, e0, e1, -, -⟩ := id hbx2
          obtain ⟨hcr, hfr, hzr⟩ := bcell hbw2
          clear d0 d1 hown hb hb2 hbx
          go_wp2_with fail
          refine (over_at s _ ps[k] _ HE.out h4 O1.out).mono ?_
          rintro e w3 ⟨rfl, hb3⟩
          have hbx3 := hbx2.keep hb3
          have hown3 := own_keep hown2 (Nat.le_refl _) hb3
          have hbw3 : Below w.heap.size w w3 := by (repeat (first | (with_reducible assumption) | (with_reducible exact Below.refl _ _) | ((with_reducible refine Below.alloc ?_ ?hsz _); (case hsz => (first | omega | (simp; done) | (simp; omega) | (simp at *; omega)))) | ((with_reducible refine Below.setCell ?_ ?hsz _); (case hsz => (first | omega | (simp; done) | (simp; omega) | (simp at *; omega)))) | (with_reducible refine Below.drew ?_) | (with_reducible refine below_drewN ?_ _) | ((with_reducible refine Below.trans ?_ (Below.mono (by with_reducible assumption) ?hsz)); (case hsz => (first | omega | (simp; done) | (simp; omega) | (simp at *; omega))))))
          have hz3 := hb3.size
          have hrow : ∀ q, (Value.slice (some ⟨g1, 0, none⟩) j k1).ownBlock = some q → w.heap.size + 1 ≤ q := fun q hq => (hown3.lt q hq).1
          clear e0 e1 hcr hfr hown2 hbw2 hbx2 hb3
          go_wp2_with (first
            | (at_builtin
               go_must (refine wpList_append_lies _ rfl _ _ 30 rfl (w.heap.size + 1) 3 i0 _ 1 8 Tryz.underlying30 hi0 hz0 hz1 hz2 rfl (by omega) _ j _ rfl (hown3.alloc _) ⟨w3.heap.size, 0, none⟩ 1 1 [.int .i64 k] rfl rfl (World.news_of_block (cs := #[.int .i64 k]) (t := 3) (fr := (0, 0)) (heap_alloc_new _ _)) (by simp [Value.oneCell']) (by omega) (by unfold maxLen; omega) (by omega) (by simp; omega) _ rfl ?_)
               intro g2 k2 w7 hown7 hgr7 hat7 hlt7))
          have hb7 : Below w.heap.size w w7 := by
            refine Below.grown (w := w3.alloc (.cells #[.int .i64 k] 3)) (by (repeat (first | (with_reducible assumption) | (with_reducible exact Below.refl _ _) | ((with_reducible refine Below.alloc ?_ ?hsz _); (case hsz => (first | omega | (simp; done) | (simp; omega) | (simp at *; omega)))) | ((with_reducible refine Below.setCell ?_ ?hsz _); (case hsz => (first | omega | (simp; done) | (simp; omega) | (simp at *; omega)))) | (with_reducible refine Below.drew ?_) | (with_reducible refine below_drewN ?_ _) | ((with_reducible refine Below.trans ?_ (Below.mono (by with_reducible assumption) ?hsz)); (case hsz => (first | omega | (simp; done) | (simp; omega) | (simp at *; omega))))))) hgr7 (by (first | omega | (simp; done) | (simp; omega) | (simp at *; omega))) (fun q hq => by have := hrow q hq; omega)
          have hown8 : w7.ownsRow (w.heap.size + 1) 3 1 (.slice (some ⟨g2, 0, none⟩) (j + 1) k2) (j + 1) ((numW (k + 1) (leavF s ps)).map (Value.int .i64)) := by
            rw [Hf.out, List.map_append]
            simpa using hown7
          have hj8 : (numW (k + 1) (leavF s ps)).length = j + 1 := by rw [Hf.out, List.length_append, HJ.out]; rfl
          have hbx8 := (hbx3.keep ((Below.refl _ _).alloc (Nat.le_refl _) (.cells #[.int .i64 k] 3))).grown hgr7 (by intro h; have := hrow _ h.symm; omega)
          clear hown7 hgr7 hat7 hlt7
          go_roundw
          case rel => exact ⟨k + 1, j + 1, g2, k2, by omega, by go_num, rfl, hj8, hown8, hb7, hbx8⟩
          case measure => simp [intOf]; omega
        · have hf' : partsB s ps[k].fr ps[k].to = false := by simpa using hf
          rw [hf'] at hlF
          have Hf := Lib.hid (numW_no hlF)
          obtain ⟨r, hr, hrne⟩ : ∃ r, overI s ps[k] = r ∧ (r == 1) = false := ⟨_, rfl, by
            rcases over_acT s ps[k] 1 0 with ⟨o1, o2⟩ | ⟨o1, o2⟩ | ⟨o1, o2⟩
            · exfalso
              have h1 := bitI_01 s ps[k].fr
              have h2 := bitI_01 s ps[k].to
              simp only [partsB, bitI_B, Bool.and_eq_false_iff, Bool.not_eq_false', decide_eq_true_eq, decide_eq_false_iff_not] at hf'
              unfold overI at o1; omega
            · rw [o1]; rfl
            · rw [o1]; rfl⟩
          have O1 := Lib.hid hr
          clear hlF hf hf' hr
          go_wp2_with fail
          refine (specSideOk_any n s _ ps b _ (hp0.keep (by (repeat (first | (with_reducible assumption) | (with_reducible exact Below.refl _ _) | ((with_reducible refine Below.alloc ?_ ?hsz _); (case hsz => (first | omega | (simp; done) | (simp; omega) | (simp at *; omega)))) | ((with_reducible refine Below.setCell ?_ ?hsz _); (case hsz => (first | omega | (simp; done) | (simp; omega) | (simp at *; omega)))) | (with_reducible refine Below.drew ?_) | (with_reducible refine below_drewN ?_ _) | ((with_reducible refine Below.trans ?_ (Below.mono (by with_reducible assumption) ?hsz)); (case hsz => (first | omega | (simp; done) | (simp; omega) | (simp at *; omega))))))))).mono ?_
          rintro e w2 ⟨rfl, hb2⟩
          have hbx2 := hbx.keep hb2
          have hown2 := own_keep hown (Nat.le_refl _) hb2
          have hbw2 : Below w.heap.size w w2 := by (repeat (first | (with_reducible assumption) | (with_reducible exact Below.refl _ _) | ((with_reducible refine Below.alloc ?_ ?hsz _); (case hsz => (first | omega | (simp; done) | (simp; omega) | (simp at *; omega)))) | ((with_reducible refine Below.setCell ?_ ?hsz _); (case hsz => (first | omega | (simp; done) | (simp; omega) | (simp at *; omega)))) | (with_reducible refine Below.drew ?_) | (with_reducible refine below_drewN ?_ _) | ((with_reducible refine Below.trans ?_ (Below.mono (by with_reducible assumption) ?hsz)); (case hsz => (first | omega | (simp; done) | (simp; omega) | (simp at *; omega))))))
          obtain ⟨hzw2, e0, e1, -, -⟩ := id hbx2
          obtain ⟨hcr, hfr, hzr⟩ := bcell hbw2
          clear d0 d1 hown hb hb2 hbx
          go_wp2_with fail
          refine (over_at s _ ps[k] _ HE.out h4 O1.out).mono ?_
          rintro e w3 ⟨rfl, hb3⟩
          have hbx3 := hbx2.keep hb3
          have hown3 := own_keep hown2 (Nat.le_refl _) hb3
          have hbw3 : Below w.heap.size w w3 := by (repeat (first | (with_reducible assumption) | (with_reducible exact Below.refl _ _) | ((with_reducible refine Below.alloc ?_ ?hsz _); (case hsz => (first | omega | (simp; done) | (simp; omega) | (simp at *; omega)))) | ((with_reducible refine Below.setCell ?_ ?hsz _); (case hsz => (first | omega | (simp; done) | (simp; omega) | (simp at *; omega)))) | (with_reducible refine Below.drew ?_) | (with_reducible refine below_drewN ?_ _) | ((with_reducible refine Below.trans ?_ (Below.mono (by with_reducible assumption) ?hsz)); (case hsz => (first | omega | (simp; done) | (simp; omega) | (simp at *; omega))))))
          clear e0 e1 hcr hfr hown2 hbw2 hbx2 hb3
          go_wp2
          go_roundw
          case rel => exact ⟨k + 1, j, g1, k1, by omega, by go_num, rfl, by rw [Hf.out]; exact HJ.out, by rw [Hf.out]; exact hown3, hbw3, hbx3⟩
          case measure => simp [intOf]; omega
      · go_wp2
        go_ret
        have hk2 : k = ps.length := by omega
        subst hk2
        exact ⟨_, rfl, by rw [Hr.out]; exact Ints.mono (b := w.heap.size + 1) ⟨by rw [HJ.out]; exact hown, by rw [HJ.out]; unfold small; omega⟩ (by omega), hb⟩
  · have hs' : sideB n ps s = false := by simpa using hs
    have Hr := Lib.hid (leaving_no hs')
    clear hs
    go_enter Tryz.func44, Tryz.ntmps44
    go_wp2
    go_loopw [6, 5] (fun i t wr => i = .int .i64 0 ∧ t = .slice (some ⟨w.heap.size + 1, 0, none⟩) 0 0 ∧ Ints wr w.heap.size (.slice (some ⟨w.heap.size + 1, 0, none⟩) 0 0) [] ∧ Below w.heap.size w wr ∧ Box2 wr w.heap.size (.int .i64 n) (.slice A ps.length c)) (fun _ _ _ => 0)
    case atStart =>
      refine ⟨rfl, rfl, Ints_empty' _ _ _ (by simp) (by simp), by (repeat (first | (with_reducible assumption) | (with_reducible exact Below.refl _ _) | ((with_reducible refine Below.alloc ?_ ?hsz _); (case hsz => (first | omega | (simp; done) | (simp; omega) | (simp at *; omega)))) | ((with_reducible refine Below.setCell ?_ ?hsz _); (case hsz => (first | omega | (simp; done) | (simp; omega) | (simp at *; omega)))) | (with_reducible refine Below.drew ?_) | (with_reducible refine below_drewN ?_ _) | ((with_reducible refine Below.trans ?_ (Below.mono (by with_reducible assumption) ?hsz)); (case hsz => (first | omega | (simp; done) | (simp; omega) | (simp at *; omega)))))), ?_⟩
      exact (Box2.new w _ _ _).keep (by (repeat (first | (with_reducible assumption) | (with_reducible exact Below.refl _ _) | ((with_reducible refine Below.alloc ?_ ?hsz _); (case hsz => (first | omega | (simp; done) | (simp; omega) | (simp at *; omega)))) | ((with_reducible refine Below.setCell ?_ ?hsz _); (case hsz => (first | omega | (simp; done) | (simp; omega) | (simp at *; omega)))) | (with_reducible refine Below.drew ?_) | (with_reducible refine below_drewN ?_ _) | ((with_reducible refine Below.trans ?_ (Below.mono (by with_reducible assumption) ?hsz)); (case hsz => (first | omega | (simp; done) | (simp; omega) | (simp at *; omega)))))))
    case round =>
      obtain ⟨rfl, rfl, hown, hb, hbx⟩ := hrel
      obtain ⟨hzw, d0, d1, -, -⟩ := id hbx
      go_wp2_with (first
        | (go_at_call 96; ((with_reducible refine (specSideOk_any n s _ ps b _ (hp0.keep (by (repeat (first | (with_reducible assumption) | (with_reducible exact Below.refl _ _) | ((with_reducible refine Below.alloc ?_ ?hsz _); (case hsz => (first | omega | (simp; done) | (simp; omega) | (simp at *; omega)))) | ((with_reducible refine Below.setCell ?_ ?hsz _); (case hsz => (first | omega | (simp; done) | (simp; omega) | (simp at *; omega)))) | (with_reducible refine Below.drew ?_) | (with_reducible refine below_drewN ?_ _) | ((with_reducible refine Below.trans ?_ (Below.mono (by with_reducible assumption) ?hsz)); (case hsz => (first | omega | (simp; done) | (simp; omega) | (simp at *; omega))))))))).mono ?_); rintro e w1 ⟨rfl, hb1⟩; obtain ⟨hc1, hf1, hz1⟩ := bcell hb1; (try simp at hz1); (try have hy1 : w.heap.size < w1.heap.size := by omega); (try have hy2 : w.heap.size + 1 < w1.heap.size := by omega); (try have hy3 : w.heap.size + 1 + 1 < w1.heap.size := by omega))))
      all_goals (go_ret; exact ⟨_, rfl, by rw [Hr.out]; first | exact hown | exact hown.keep (by assumption), by (repeat (first | (with_reducible assumption) | (with_reducible exact Below.refl _ _) | ((with_reducible refine Below.alloc ?_ ?hsz _); (case hsz => (first | omega | (simp; done) | (simp; omega) | (simp at *; omega)))) | ((with_reducible refine Below.setCell ?_ ?hsz _); (case hsz => (first | omega | (simp; done) | (simp; omega) | (simp at *; omega)))) | (with_reducible refine Below.drew ?_) | (with_reducible refine below_drewN ?_ _) | ((with_reducible refine Below.trans ?_ (Below.mono (by with_reducible assumption) ?hsz)); (case hsz => (first | omega | (simp; done) | (simp; omega) | (simp at *; omega))))))⟩)

end Go.Proofs.YtmgpekdhcghabaaGreat

/- Contracts of the functions of chapter 2 in the model: LeastRoom. -/
namespace Go.Proofs.YtmgpekdhcghabaaGreat
open Go.RowKit

theorem leastR_yes' {n : Int} {ps : List Pp} {a b : Int} (h : endsB n ps a b = true) : leastR n ps a b = (leastI n ps a b, true) := by rw [leastR, if_pos h]
theorem leastR_no' {n : Int} {ps : List Pp} {a b : Int} (h : endsB n ps a b = false) : leastR n ps a b = (0, false) := by rw [leastR, if_neg (by simp [h])]

theorem shl_in {k : Int} (h0 : 0 ≤ k) (h1 : k ≤ 5) : IntKind.i64.wrap (2 ^ k.toNat) = 2 ^ k.toNat := by
  have h : k = 0 ∨ k = 1 ∨ k = 2 ∨ k = 3 ∨ k = 4 ∨ k = 5 := by omega
  rcases h with rfl | rfl | rfl | rfl | rfl | rfl <;> decide

theorem minL_add (ps : List Pp) (x : Int) (l : List Int) (t : Int) : minL ps x (l ++ [t]) = min (minL ps x l) (room t ps) := by
  rw [minL, List.foldl_append]; rfl

def betwF' (a b : Int) (k : Nat) : Bool := partsB (k : Int) a b

theorem bits_of (k : Nat) (a b : Int) :
    (((k : Int) / 2 ^ a.toNat).tmod 2 == 1) = decide (bitI k a = 1) ∧ (((k : Int) / 2 ^ b.toNat).tmod 2 == 0) = decide (bitI k b = 0) ∧ betwF' a b k = (decide (bitI k a = 1) && decide (bitI k b = 0)) := by
  rw [shr_bit (Int.natCast_nonneg k), shr_bit (Int.natCast_nonneg k)]
  refine ⟨beq_dec _ _, beq_dec _ _, ?_⟩
  have h2 := bitI_01 (k : Int) b
  rw [betwF', partsB, bitI_B, bitI_B]
  congr 1
  rw [Bool.eq_iff_iff]
  simp only [Bool.not_eq_true', decide_eq_false_iff_not, decide_eq_true_eq]
  omega

theorem betw_yes {k : Nat} {a b : Int} (h1 : ((k : Int) / 2 ^ a.toNat).tmod 2 = 1) (h2 : (((k : Int) / 2 ^ b.toNat).tmod 2 == 0) = true) : betwF' a b k = true := by
  obtain ⟨x1, x2, x3⟩ := bits_of k a b
  rw [x3, ← x1, ← x2, h2, h1]; rfl
theorem betw_no {k : Nat} {a b : Int} (h2 : (((k : Int) / 2 ^ b.toNat).tmod 2 == 0) = false) : betwF' a b k = false := by
  obtain ⟨x1, x2, x3⟩ := bits_of k a b
  rw [x3, ← x2, h2, Bool.and_false]
theorem betw_no' {k : Nat} {a b : Int} (h1 : ¬ ((k : Int) / 2 ^ a.toNat).tmod 2 = 1) : betwF' a b k = false := by
  obtain ⟨x1, x2, x3⟩ := bits_of k a b
  rw [x3, ← x1, beq_dec, decide_eq_false h1, Bool.false_and]

theorem min_if' (a b : Int) : (if b < a then b else a) = min a b := by split <;> omega

set_option maxHeartbeats 2000000 in
set_option maxRecDepth 20000 in
theorem specLeastRoom_any (n i j : Int) (v : Value) (ps : List Pp) (b : Nat) (w : World) (hp : Pipes w b v ps) :
    Calls Tryz.prog 94 #[.agg #[.int .i64 n, v], .int .i64 i, .int .i64 j] w fun e w' => e = .returned (.tuple #[.int .i64 (leastR n ps i j).1, .bool (leastR n ps i j).2]) ∧ Below w.heap.size w w' := by
  have hp0 := hp
  obtain ⟨A, c, rfl, hc1, hc2, hsm, -⟩ := hp.form
  unfold maxLen at hc2
  by_cases he : endsB n ps i j = true
  · obtain ⟨hnok, i0, i1, j0, j1, hij⟩ := ends_parts he
    have Hr := Lib.hid (leastR_yes' he)
    have n2 := (netOk_parts hnok).1
    have n5 := (netOk_parts hnok).2.1
    have Hok := Lib.hid hnok
    clear hij
    go_enter Tryz.func94, Tryz.ntmps94
    go_wp2_with (first
      | (go_at_call 71; ((with_reducible refine (ends_any _ _ _ _ ps b _ (hp0.keep (by (repeat (first | (with_reducible assumption) | (with_reducible exact Below.refl _ _) | ((with_reducible refine Below.alloc ?_ ?hsz _); (case hsz => (first | omega | (simp; done) | (simp; omega) | (simp at *; omega)))) | ((with_reducible refine Below.setCell ?_ ?hsz _); (case hsz => (first | omega | (simp; done) | (simp; omega) | (simp at *; omega)))) | (with_reducible refine Below.drew ?_) | (with_reducible refine below_drewN ?_ _) | ((with_reducible refine Below.trans ?_ (Below.mono (by with_reducible assumption) ?hsz)); (case hsz => (first | omega | (simp; done) | (simp; omega) | (simp at *; omega))))))))).mono ?_); rintro e w1 ⟨rfl, hb1⟩; obtain ⟨hc1, hf1, hz1⟩ := bcell hb1; (try simp at hz1); (try have hy1 : w.heap.size < w1.heap.size := by omega); (try have hy2 : w.heap.size + 1 < w1.heap.size := by omega); (try have hy3 : w.heap.size + 1 + 1 < w1.heap.size := by omega))))
    have hbw : Below w.heap.size w w1 := by (repeat (first | (with_reducible assumption) | (with_reducible exact Below.refl _ _) | ((with_reducible refine Below.alloc ?_ ?hsz _); (case hsz => (first | omega | (simp; done) | (simp; omega) | (simp at *; omega)))) | ((with_reducible refine Below.setCell ?_ ?hsz _); (case hsz => (first | omega | (simp; done) | (simp; omega) | (simp at *; omega)))) | (with_reducible refine Below.drew ?_) | (with_reducible refine below_drewN ?_ _) | ((with_reducible refine Below.trans ?_ (Below.mono (by with_reducible assumption) ?hsz)); (case hsz => (first | omega | (simp; done) | (simp; omega) | (simp at *; omega))))))
    have e0 : w1.cell? ⟨w.heap.size, 0, none⟩ = some (.int .i64 n) := by (first | ((repeat (first | (with_reducible assumption) | ((with_reducible refine (Below.cell (by with_reducible assumption) ?hsz).trans ?_); (case hsz => (first | omega | (simp; done) | (simp; omega) | (simp at *; omega)))) | ((with_reducible refine (World.cell?_alloc_lt _ _ _ ?hsz).trans ?_); (case hsz => (first | omega | (simp; done) | (simp; omega) | (simp at *; omega)))) | ((with_reducible refine (World.cell?_setCell_other _ _ _ _ ?hsz).trans ?_); (case hsz => (intro h; injection h with h1 h2; omega))))); done) | ((repeat (first | (with_reducible assumption) | ((with_reducible refine (Below.cell (by with_reducible assumption) ?hsz).trans ?_); (case hsz => (first | omega | (simp; done) | (simp; omega) | (simp at *; omega)))) | ((with_reducible refine (World.cell?_alloc_lt _ _ _ ?hsz).trans ?_); (case hsz => (first | omega | (simp; done) | (simp; omega) | (simp at *; omega)))) | ((with_reducible refine (World.cell?_setCell_other _ _ _ _ ?hsz).trans ?_); (case hsz => (intro h; injection h with h1 h2; omega))))); simp; done) | (go_simp; done))
    have e1 : w1.cell? ⟨w.heap.size, 1, none⟩ = some (.slice A ps.length c) := by (first | ((repeat (first | (with_reducible assumption) | ((with_reducible refine (Below.cell (by with_reducible assumption) ?hsz).trans ?_); (case hsz => (first | omega | (simp; done) | (simp; omega) | (simp at *; omega)))) | ((with_reducible refine (World.cell?_alloc_lt _ _ _ ?hsz).trans ?_); (case hsz => (first | omega | (simp; done) | (simp; omega) | (simp at *; omega)))) | ((with_reducible refine (World.cell?_setCell_other _ _ _ _ ?hsz).trans ?_); (case hsz => (intro h; injection h with h1 h2; omega))))); done) | ((repeat (first | (with_reducible assumption) | ((with_reducible refine (Below.cell (by with_reducible assumption) ?hsz).trans ?_); (case hsz => (first | omega | (simp; done) | (simp; omega) | (simp at *; omega)))) | ((with_reducible refine (World.cell?_alloc_lt _ _ _ ?hsz).trans ?_); (case hsz => (first | omega | (simp; done) | (simp; omega) | (simp at *; omega)))) | ((with_reducible refine (World.cell?_setCell_other _ _ _ _ ?hsz).trans ?_); (case hsz => (intro h; injection h with h1 h2; omega))))); simp; done) | (go_simp; done))
    have hz1' : w.heap.size < w1.heap.size := by omega
    clear hc1 hf1 hb1
    have hsi := shl_in (k := i) i0 (by omega)
    have hsi0 : (0 : Int) ≤ 2 ^ i.toNat := Int.le_of_lt (Int.pow_pos (by decide))
    go_region_held3 (fun w' => w'.cell? ⟨w.heap.size, 0, none⟩ = some (.int .i64 n) ∧ w'.cell? ⟨w.heap.size, 1, none⟩ = some (.slice A ps.length c))
      (first | go_keep | (go_split_ands; refine ⟨?_, ?_⟩ <;> (repeat (first | (with_reducible assumption) | ((with_reducible refine (Below.cell (by with_reducible assumption) ?hsz).trans ?_); (case hsz => (first | omega | (simp; done) | (simp; omega) | (simp at *; omega)))) | ((with_reducible refine (World.cell?_alloc_lt _ _ _ ?hsz).trans ?_); (case hsz => (first | omega | (simp; done) | (simp; omega) | (simp at *; omega)))) | ((with_reducible refine (World.cell?_setCell_other _ _ _ _ ?hsz).trans ?_); (case hsz => (intro h; injection h with h1 h2; omega)))))))
      ((go_at_call 95; (with_reducible refine (specRoom_any n _ _ ps b _ (hp0.keep (by (repeat (first | (with_reducible assumption) | (with_reducible exact Below.refl _ _) | ((with_reducible refine Below.alloc ?_ ?hsz _); (case hsz => (first | omega | (simp; done) | (simp; omega) | (simp at *; omega)))) | ((with_reducible refine Below.setCell ?_ ?hsz _); (case hsz => (first | omega | (simp; done) | (simp; omega) | (simp at *; omega)))) | (with_reducible refine Below.drew ?_) | (with_reducible refine below_drewN ?_ _) | ((with_reducible refine Below.trans ?_ (Below.mono (by with_reducible assumption) ?hsz)); (case hsz => (first | omega | (simp; done) | (simp; omega) | (simp at *; omega)))))))) Hok.out hsi0).mono ?_); rintro e w4 ⟨rfl, hb4⟩; obtain ⟨hc4, hf4, hz4⟩ := bcell hb4))
    have hbw4 : Below w.heap.size w w4 := by (repeat (first | (with_reducible assumption) | (with_reducible exact Below.refl _ _) | ((with_reducible refine Below.alloc ?_ ?hsz _); (case hsz => (first | omega | (simp; done) | (simp; omega) | (simp at *; omega)))) | ((with_reducible refine Below.setCell ?_ ?hsz _); (case hsz => (first | omega | (simp; done) | (simp; omega) | (simp at *; omega)))) | (with_reducible refine Below.drew ?_) | (with_reducible refine below_drewN ?_ _) | ((with_reducible refine Below.trans ?_ (Below.mono (by with_reducible assumption) ?hsz)); (case hsz => (first | omega | (simp; done) | (simp; omega) | (simp at *; omega))))))
    have hsz4 : w1.heap.size ≤ w4.heap.size := by (try simp at hz4); omega
    have e04 : w4.cell? ⟨w.heap.size, 0, none⟩ = some (.int .i64 n) := (hc4 _ _ (by (first | omega | (simp; done) | (simp; omega) | (simp at *; omega)))).trans e0
    have e14 : w4.cell? ⟨w.heap.size, 1, none⟩ = some (.slice A ps.length c) := (hc4 _ _ (by (first | omega | (simp; done) | (simp; omega) | (simp at *; omega)))).trans e1
    have hz4' : w.heap.size < w4.heap.size := by omega
    clear hc4 hf4 hb4 hz4 e0 e1 hbw hsi hsi0
    generalize hx : room (2 ^ i.toNat) ps = x
    have Hleast : Hid (leastI n ps i j = minL ps x (numW (2 ^ n.toNat) (betwF' i j))) := Lib.hid (by rw [← hx]; rfl)
    clear hx
    have hsn := shl_in (k := n) (by omega) n5
    obtain ⟨cnt, hcnt, hci⟩ : ∃ cnt : Nat, cnt = 2 ^ n.toNat ∧ (2 : Int) ^ n.toNat = (cnt : Int) := ⟨_, rfl, by simp⟩
    have hc32 : cnt ≤ 32 := by rw [hcnt]; exact Nat.le_trans (Nat.pow_le_pow_right (by omega) (show n.toNat ≤ 5 by omega)) (by decide)
    rw [← hcnt] at Hleast
    rw [hci] at hsn
    clear hcnt
    go_wp2
    go_loopw [9, 8] (fun t m wr => ∃ k : Nat, k ≤ cnt ∧ t = .int .i64 k ∧ m = .int .i64 (minL ps x (numW k (betwF' i j))) ∧ Below w4.heap.size w4 wr) (fun t _ _ => cnt - (intOf t).toNat)
    case atStart => exact ⟨0, by omega, rfl, rfl, Below.refl _ _⟩
    case round =>
      obtain ⟨k, hk, rfl, rfl, hb⟩ := hrel
      have hbwr : Below w.heap.size w wr := by (repeat (first | (with_reducible assumption) | (with_reducible exact Below.refl _ _) | ((with_reducible refine Below.alloc ?_ ?hsz _); (case hsz => (first | omega | (simp; done) | (simp; omega) | (simp at *; omega)))) | ((with_reducible refine Below.setCell ?_ ?hsz _); (case hsz => (first | omega | (simp; done) | (simp; omega) | (simp at *; omega)))) | (with_reducible refine Below.drew ?_) | (with_reducible refine below_drewN ?_ _) | ((with_reducible refine Below.trans ?_ (Below.mono (by with_reducible assumption) ?hsz)); (case hsz => (first | omega | (simp; done) | (simp; omega) | (simp at *; omega))))))
      have d0 := (hb.cell (p := ⟨w.heap.size, 0, none⟩) hz4').trans e04
      have d1 := (hb.cell (p := ⟨w.heap.size, 1, none⟩) hz4').trans e14
      have hzr := hb.size
      by_cases hlt : k < cnt
      · go_wp2_with (first
          | (go_at_call 95; ((with_reducible refine (specRoom_any n k _ ps b _ (hp0.keep (by (repeat (first | (with_reducible assumption) | (with_reducible exact Below.refl _ _) | ((with_reducible refine Below.alloc ?_ ?hsz _); (case hsz => (first | omega | (simp; done) | (simp; omega) | (simp at *; omega)))) | ((with_reducible refine Below.setCell ?_ ?hsz _); (case hsz => (first | omega | (simp; done) | (simp; omega) | (simp at *; omega)))) | (with_reducible refine Below.drew ?_) | (with_reducible refine below_drewN ?_ _) | ((with_reducible refine Below.trans ?_ (Below.mono (by with_reducible assumption) ?hsz)); (case hsz => (first | omega | (simp; done) | (simp; omega) | (simp at *; omega)))))))) Hok.out (Int.natCast_nonneg k)).mono ?_); rintro e w1 ⟨rfl, hb1⟩; obtain ⟨hc1, hf1, hz1⟩ := bcell hb1; (try simp at hz1); (try have hy1 : w.heap.size < w1.heap.size := by omega); (try have hy2 : w.heap.size + 1 < w1.heap.size := by omega); (try have hy3 : w.heap.size + 1 + 1 < w1.heap.size := by omega))))
        · have hy : betwF' i j k = true := betw_yes (by assumption) (by assumption)
          go_roundw
          case rel => exact ⟨k + 1, by omega, by go_num, by rw [numW_yes hy, minL_add]; exact int_eq' (min_if' _ _), by (repeat (first | (with_reducible assumption) | (with_reducible exact Below.refl _ _) | ((with_reducible refine Below.alloc ?_ ?hsz _); (case hsz => (first | omega | (simp; done) | (simp; omega) | (simp at *; omega)))) | ((with_reducible refine Below.setCell ?_ ?hsz _); (case hsz => (first | omega | (simp; done) | (simp; omega) | (simp at *; omega)))) | (with_reducible refine Below.drew ?_) | (with_reducible refine below_drewN ?_ _) | ((with_reducible refine Below.trans ?_ (Below.mono (by with_reducible assumption) ?hsz)); (case hsz => (first | omega | (simp; done) | (simp; omega) | (simp at *; omega))))))⟩
          case measure => simp [intOf]; omega
        · have hy : betwF' i j k = false := betw_no (by assumption)
          go_roundw
          case rel => exact ⟨k + 1, by omega, by go_num, by rw [numW_no hy], by (repeat (first | (with_reducible assumption) | (with_reducible exact Below.refl _ _) | ((with_reducible refine Below.alloc ?_ ?hsz _); (case hsz => (first | omega | (simp; done) | (simp; omega) | (simp at *; omega)))) | ((with_reducible refine Below.setCell ?_ ?hsz _); (case hsz => (first | omega | (simp; done) | (simp; omega) | (simp at *; omega)))) | (with_reducible refine Below.drew ?_) | (with_reducible refine below_drewN ?_ _) | ((with_reducible refine Below.trans ?_ (Below.mono (by with_reducible assumption) ?hsz)); (case hsz => (first | omega | (simp; done) | (simp; omega) | (simp at *; omega))))))⟩
          case measure => simp [intOf]; omega
        · have hy : betwF' i j k = false := betw_no' (by assumption)
          go_roundw
          case rel => exact ⟨k + 1, by omega, by go_num, by rw [numW_no hy], by (repeat (first | (with_reducible assumption) | (with_reducible exact Below.refl _ _) | ((with_reducible refine Below.alloc ?_ ?hsz _); (case hsz => (first | omega | (simp; done) | (simp; omega) | (simp at *; omega)))) | ((with_reducible refine Below.setCell ?_ ?hsz _); (case hsz => (first | omega | (simp; done) | (simp; omega) | (simp at *; omega)))) | (with_reducible refine Below.drew ?_) | (with_reducible refine below_drewN ?_ _) | ((with_reducible refine Below.trans ?_ (Below.mono (by with_reducible assumption) ?hsz)); (case hsz => (first | omega | (simp; done) | (simp; omega) | (simp at *; omega))))))⟩
          case measure => simp [intOf]; omega
      · go_wp2
        have hk2 : k = cnt := by omega
        subst hk2
        go_ret2
        exact ⟨ret_ib (by rw [Hr.out, Hleast.out]), by (repeat (first | (with_reducible assumption) | (with_reducible exact Below.refl _ _) | ((with_reducible refine Below.alloc ?_ ?hsz _); (case hsz => (first | omega | (simp; done) | (simp; omega) | (simp at *; omega)))) | ((with_reducible refine Below.setCell ?_ ?hsz _); (case hsz => (first | omega | (simp; done) | (simp; omega) | (simp at *; omega)))) | (with_reducible refine Below.drew ?_) | (with_reducible refine below_drewN ?_ _) | ((with_reducible refine Below.trans ?_ (Below.mono (by with_reducible assumption) ?hsz)); (case hsz => (first | omega | (simp; done) | (simp; omega) | (simp at *; omega))))))⟩
  · have he' : endsB n ps i j = false := by simpa using he
    have Hr := Lib.hid (leastR_no' he')
    clear he
    go_enter Tryz.func94, Tryz.ntmps94
    go_wp2_with (first
      | (go_at_call 71; ((with_reducible refine (ends_any _ _ _ _ ps b _ (hp0.keep (by (repeat (first | (with_reducible assumption) | (with_reducible exact Below.refl _ _) | ((with_reducible refine Below.alloc ?_ ?hsz _); (case hsz => (first | omega | (simp; done) | (simp; omega) | (simp at *; omega)))) | ((with_reducible refine Below.setCell ?_ ?hsz _); (case hsz => (first | omega | (simp; done) | (simp; omega) | (simp at *; omega)))) | (with_reducible refine Below.drew ?_) | (with_reducible refine below_drewN ?_ _) | ((with_reducible refine Below.trans ?_ (Below.mono (by with_reducible assumption) ?hsz)); (case hsz => (first | omega | (simp; done) | (simp; omega) | (simp at *; omega))))))))).mono ?_); rintro e w1 ⟨rfl, hb1⟩; obtain ⟨hc1, hf1, hz1⟩ := bcell hb1; (try simp at hz1); (try have hy1 : w.heap.size < w1.heap.size := by omega); (try have hy2 : w.heap.size + 1 < w1.heap.size := by omega); (try have hy3 : w.heap.size + 1 + 1 < w1.heap.size := by omega))))
    go_ret2
    exact ⟨ret_ib (by rw [Hr.out]), by (repeat (first | (with_reducible assumption) | (with_reducible exact Below.refl _ _) | ((with_reducible refine Below.alloc ?_ ?hsz _); (case hsz => (first | omega | (simp; done) | (simp; omega) | (simp at *; omega)))) | ((with_reducible refine Below.setCell ?_ ?hsz _); (case hsz => (first | omega | (simp; done) | (simp; omega) | (simp at *; omega)))) | (with_reducible refine Below.drew ?_) | (with_reducible refine below_drewN ?_ _) | ((with_reducible refine Below.trans ?_ (Below.mono (by with_reducible assumption) ?hsz)); (case hsz => (first | omega | (simp; done) | (simp; omega) | (simp at *; omega))))))⟩

end Go.Proofs.YtmgpekdhcghabaaGreat

/- Contracts of the functions of chapter 2 in the model: NarrowestOf. -/
namespace Go.Proofs.YtmgpekdhcghabaaGreat
open Go.RowKit

def narrF' (ps : List Pp) (a b m : Int) (k : Nat) : Bool := partsB (k : Int) a b && decide (room (k : Int) ps = m)
theorem narrow_yes' {n : Int} {ps : List Pp} {a b : Int} (h : endsB n ps a b = true) : narrowL n ps a b = numW (2 ^ n.toNat) (narrF' ps a b (leastI n ps a b)) := by rw [narrowL, if_pos h]; rfl
theorem narrow_no' {n : Int} {ps : List Pp} {a b : Int} (h : endsB n ps a b = false) : narrowL n ps a b = [] := by rw [narrowL, if_neg (by simp [h])]
theorem narrF_yes {ps : List Pp} {a b m : Int} {k : Nat} (h : betwF' a b k = true) (h1 : room (k : Int) ps = m) : narrF' ps a b m k = true := by
  rw [narrF', show partsB (k : Int) a b = true from h, decide_eq_true h1]; rfl
theorem narrF_no1 {ps : List Pp} {a b m : Int} {k : Nat} (h : betwF' a b k = false) : narrF' ps a b m k = false := by
  rw [narrF', show partsB (k : Int) a b = false from h, Bool.false_and]
theorem narrF_no2 {ps : List Pp} {a b m : Int} {k : Nat} (h1 : ¬ room (k : Int) ps = m) : narrF' ps a b m k = false := by
  rw [narrF', decide_eq_false h1, Bool.and_false]

theorem betw_yes2 {k : Nat} {a b : Int} (h1 : ((k : Int) / 2 ^ a.toNat).tmod 2 = 1) (h2 : ((k : Int) / 2 ^ b.toNat).tmod 2 = 0) : betwF' a b k = true :=
  betw_yes h1 (by rw [beq_iff_eq]; exact h2)
theorem betw_no2 {k : Nat} {a b : Int} (h2 : ¬ ((k : Int) / 2 ^ b.toNat).tmod 2 = 0) : betwF' a b k = false :=
  betw_no (by rw [beq_eq_false_iff_ne]; exact h2)

end Go.Proofs.YtmgpekdhcghabaaGreat
