/- Contracts of the functions of chapter 2 in the model: LeavingOf. -/
import Derived.Test.YtlebamdgcfhdaaaS8
import Derived.Test.YtlebamdgcfhdaaaD0
namespace Go.Proofs.Ytlebamdgcfhdaaa
open Go.RowKit

theorem Ints_empty' (w : World) (b : Nat) (g : Nat) (hb : b ≤ w.heap.size) (hg : g = w.heap.size) : Ints (w.alloc (.cells #[] 3)) b (.slice (some ⟨g, 0, none⟩) 0 0) [] := by
  subst hg
  exact ⟨World.ownsRow_lit (e := 3) (base := b) (size := 1) w #[] 0 hb (by simp [maxLen]) rfl, Nat.zero_le _⟩

set_option maxHeartbeats 2000000 in
set_option maxRecDepth 20000 in
theorem specLeavingOf_any (n s : Int) (v : Value) (ps : List Pp) (b : Nat) (w : World) (hp : Pipes w b v ps) :
    Calls Try.prog 37 #[.agg #[.int .i64 n, v], .int .i64 s] w fun e w' => ∃ r, e = .returned r ∧ Ints w' w.heap.size r (leavingL n ps s) ∧ Below w.heap.size w w' := by
  have hp0 := hp
  obtain ⟨A, c, rfl, hc1, hc2, hsm, hcell⟩ := hp.form
  unfold maxLen at hc2
  by_cases hs : sideB n ps s = true
  · have Hr := Lib.hid (leaving_yes hs)
    obtain ⟨hnok, h4⟩ := side_pos hs
    have Hends := Lib.hid (net_ends hnok)
    have h7 := (netOk_parts hnok).2.2.1
    obtain ⟨i0, hi0, hz0, hz1, hz2⟩ := info_parts int_info
    go_enter Try.func37, Try.ntmps37
    go_wp2
    go_loopw [6, 5] (fun i t wr => ∃ (k j g1 k1 : Nat), k ≤ ps.length ∧ i = .int .i64 k ∧ t = .slice (some ⟨g1, 0, none⟩) j k1 ∧ (numW k (leavF s ps)).length = j ∧
        wr.ownsRow (w.heap.size + 1) 3 1 (.slice (some ⟨g1, 0, none⟩) j k1) j ((numW k (leavF s ps)).map (Value.int .i64)) ∧ Below w.heap.size w wr ∧ Box2 wr w.heap.size (.int .i64 n) (.slice A ps.length c)) (fun i _ _ => ps.length - (intOf i).toNat)
    case atStart =>
      refine ⟨0, 0, w.heap.size + 1, 0, by omega, rfl, rfl, rfl, ?_, by (repeat (first | (with_reducible assumption) | (with_reducible exact Below.refl _ _) | ((with_reducible refine Below.alloc ?_ ?hsz _); (case hsz => (first | omega | (simp; done) | (simp; omega) | (simp at *; omega)))) | ((with_reducible refine Below.setCell ?_ ?hsz _); (case hsz => (first | omega | (simp; done) | (simp; omega) | (simp at *; omega)))) | (with_reducible refine Below.drew ?_) | (with_reducible refine below_drewN ?_ _) | ((with_reducible refine Below.trans ?_ (Below.mono (by with_reducible assumption) ?hsz)); (case hsz => (first | omega | (simp; done) | (simp; omega) | (simp at *; omega)))))), ?_⟩
      · have h := World.ownsRow_lit (e := 3) (base := w.heap.size + 1) (size := 1) (w.alloc (.cells #[.int .i64 n, .slice A ps.length c] 28)) #[] 0 (by simp) (by simp [maxLen]) rfl
        rw [World.size_alloc] at h
        exact h
      exact (Box2.new w _ _ _).keep (by (repeat (first | (with_reducible assumption) | (with_reducible exact Below.refl _ _) | ((with_reducible refine Below.alloc ?_ ?hsz _); (case hsz => (first | omega | (simp; done) | (simp; omega) | (simp at *; omega)))) | ((with_reducible refine Below.setCell ?_ ?hsz _); (case hsz => (first | omega | (simp; done) | (simp; omega) | (simp at *; omega)))) | (with_reducible refine Below.drew ?_) | (with_reducible refine below_drewN ?_ _) | ((with_reducible refine Below.trans ?_ (Below.mono (by with_reducible assumption) ?hsz)); (case hsz => (first | omega | (simp; done) | (simp; omega) | (simp at *; omega)))))))
    case round =>
      obtain ⟨k, j, g1, k1, hk, rfl, rfl, hj, hown, hb, hbx⟩ := hrel
      have hjk : j ≤ k := by rw [← hj]; exact numW_len k _
      have HJ := Lib.hid hj
      clear hj
      obtain ⟨hzw, d0, d1, -, -⟩ := id hbx
      by_cases hlt : k < ps.length
      · obtain ⟨g, rfl, hg1, hg2, c0, c1, c2, c3, c4⟩ := hcell w (Below.refl _ _) k hlt
        have hends := Hends.out _ (List.getElem_mem hlt)
        have HE := Lib.hid hends
        clear hends
        have hlF := leavF_at (s := s) hlt
        by_cases hf : partsB s ps[k].fr ps[k].to = true
        · rw [hf] at hlF
          have Hf := Lib.hid (numW_yes hlF)
          have O1 := Lib.hid (over_out hf)
          clear hlF hf
          go_wp2_with fail
          refine (specSideOk_any n s _ ps b _ (hp0.keep (by (repeat (first | (with_reducible assumption) | (with_reducible exact Below.refl _ _) | ((with_reducible refine Below.alloc ?_ ?hsz _); (case hsz => (first | omega | (simp; done) | (simp; omega) | (simp at *; omega)))) | ((with_reducible refine Below.setCell ?_ ?hsz _); (case hsz => (first | omega | (simp; done) | (simp; omega) | (simp at *; omega)))) | (with_reducible refine Below.drew ?_) | (with_reducible refine below_drewN ?_ _) | ((with_reducible refine Below.trans ?_ (Below.mono (by with_reducible assumption) ?hsz)); (case hsz => (first | omega | (simp; done) | (simp; omega) | (simp at *; omega))))))))).mono ?_
          rintro e w2 ⟨rfl, hb2⟩
          have hbx2 := hbx.keep hb2
          have hown2 := own_keep hown (Nat.le_refl _) hb2
          have hbw2 : Below w.heap.size w w2 := by (repeat (first | (with_reducible assumption) | (with_reducible exact Below.refl _ _) | ((with_reducible refine Below.alloc ?_ ?hsz _); (case hsz => (first | omega | (simp; done) | (simp; omega) | (simp at *; omega)))) | ((with_reducible refine Below.setCell ?_ ?hsz _); (case hsz => (first | omega | (simp; done) | (simp; omega) | (simp at *; omega)))) | (with_reducible refine Below.drew ?_) | (with_reducible refine below_drewN ?_ _) | ((with_reducible refine Below.trans ?_ (Below.mono (by with_reducible assumption) ?hsz)); (case hsz => (first | omega | (simp; done) | (simp; omega) | (simp at *; omega))))))
          obtain ⟨hzw2, e0, e1, -, -⟩ := id hbx2
          obtain ⟨hcr, hfr, hzr⟩ := bcell hbw2
          clear d0 d1 hown hb hb2 hbx
          go_wp2_with fail
          refine (over_at s _ ps[k] _ HE.out h4 O1.out).mono ?_
          rintro e w3 ⟨rfl, hb3⟩
          have hbx3 := hbx2.keep hb3
          have hown3 := own_keep hown2 (Nat.le_refl _) hb3
          have hbw3 : Below w.heap.size w w3 := by (repeat (first | (with_reducible assumption) | (with_reducible exact Below.refl _ _) | ((with_reducible refine Below.alloc ?_ ?hsz _); (case hsz => (first | omega | (simp; done) | (simp; omega) | (simp at *; omega)))) | ((with_reducible refine Below.setCell ?_ ?hsz _); (case hsz => (first | omega | (simp; done) | (simp; omega) | (simp at *; omega)))) | (with_reducible refine Below.drew ?_) | (with_reducible refine below_drewN ?_ _) | ((with_reducible refine Below.trans ?_ (Below.mono (by with_reducible assumption) ?hsz)); (case hsz => (first | omega | (simp; done) | (simp; omega) | (simp at *; omega))))))
          have hz3 := hb3.size
          have hrow : ∀ q, (Value.slice (some ⟨g1, 0, none⟩) j k1).ownBlock = some q → w.heap.size + 1 ≤ q := fun q hq => (hown3.lt q hq).1
          clear e0 e1 hcr hfr hown2 hbw2 hbx2 hb3
          go_wp2_with (first
            | (at_builtin
               go_must (refine wpList_append_lies _ rfl _ _ 35 rfl (w.heap.size + 1) 3 i0 _ 1 8 Try.underlying35 hi0 hz0 hz1 hz2 rfl (by omega) _ j _ rfl (hown3.alloc _) ⟨w3.heap.size, 0, none⟩ 1 1 [.int .i64 k] rfl rfl (World.news_of_block (cs := #[.int .i64 k]) (t := 3) (fr := (0, 0)) (heap_alloc_new _ _)) (by simp [Value.oneCell']) (by omega) (by unfold maxLen; omega) (by omega) (by simp; omega) _ rfl ?_)
               intro g2 k2 w7 hown7 hgr7 hat7 hlt7))
          have hb7 : Below w.heap.size w w7 := by
            refine Below.grown (w := w3.alloc (.cells #[.int .i64 k] 3)) (by (repeat (first | (with_reducible assumption) | (with_reducible exact Below.refl _ _) | ((with_reducible refine Below.alloc ?_ ?hsz _); (case hsz => (first | omega | (simp; done) | (simp; omega) | (simp at *; omega)))) | ((with_reducible refine Below.setCell ?_ ?hsz _); (case hsz => (first | omega | (simp; done) | (simp; omega) | (simp at *; omega)))) | (with_reducible refine Below.drew ?_) | (with_reducible refine below_drewN ?_ _) | ((with_reducible refine Below.trans ?_ (Below.mono (by with_reducible assumption) ?hsz)); (case hsz => (first | omega | (simp; done) | (simp; omega) | (simp at *; omega))))))) hgr7 (by (first | omega | (simp; done) | (simp; omega) | (simp at *; omega))) (fun q hq => by have := hrow q hq; omega)
          have hown8 : w7.ownsRow (w.heap.size + 1) 3 1 (.slice (some ⟨g2, 0, none⟩) (j + 1) k2) (j + 1) ((numW (k + 1) (leavF s ps)).map (Value.int .i64)) := by
            rw [Hf.out, List.map_append]
            simpa using hown7
          have hj8 : (numW (k + 1) (leavF s ps)).length = j + 1 := by rw [Hf.out, List.length_append, HJ.out]; rfl
          have hbx8 := (hbx3.keep ((Below.refl _ _).alloc (Nat.le_refl _) (.cells #[.int .i64 k] 3))).grown hgr7 (by intro h; have := hrow _ h.symm; omega)
          clear hown7 hgr7 hat7 hlt7
          go_roundw
          case rel => exact ⟨k + 1, j + 1, g2, k2, by omega, by go_num, rfl, hj8, hown8, hb7, hbx8⟩
          case measure => simp [intOf]; omega
        · have hf' : partsB s ps[k].fr ps[k].to = false := by simpa using hf
          rw [hf'] at hlF
          have Hf := Lib.hid (numW_no hlF)
          obtain ⟨r, hr, hrne⟩ : ∃ r, overI s ps[k] = r ∧ (r == 1) = false := ⟨_, rfl, by
            rcases over_acT s ps[k] 1 0 with ⟨o1, o2⟩ | ⟨o1, o2⟩ | ⟨o1, o2⟩
            · exfalso
              have h1 := bitI_01 s ps[k].fr
              have h2 := bitI_01 s ps[k].to
              simp only [partsB, bitI_B, Bool.and_eq_false_iff, Bool.not_eq_false', decide_eq_true_eq, decide_eq_false_iff_not] at hf'
              unfold overI at o1; omega
            · rw [o1]; rfl
            · rw [o1]; rfl⟩
          have O1 := Lib.hid hr
          clear hlF hf hf' hr
          go_wp2_with fail
          refine (specSideOk_any n s _ ps b _ (hp0.keep (by (repeat (first | (with_reducible assumption) | (with_reducible exact Below.refl _ _) | ((with_reducible refine Below.alloc ?_ ?hsz _); (case hsz => (first | omega | (simp; done) | (simp; omega) | (simp at *; omega)))) | ((with_reducible refine Below.setCell ?_ ?hsz _); (case hsz => (first | omega | (simp; done) | (simp; omega) | (simp at *; omega)))) | (with_reducible refine Below.drew ?_) | (with_reducible refine below_drewN ?_ _) | ((with_reducible refine Below.trans ?_ (Below.mono (by with_reducible assumption) ?hsz)); (case hsz => (first | omega | (simp; done) | (simp; omega) | (simp at *; omega))))))))).mono ?_
          rintro e w2 ⟨rfl, hb2⟩
          have hbx2 := hbx.keep hb2
          have hown2 := own_keep hown (Nat.le_refl _) hb2
          have hbw2 : Below w.heap.size w w2 := by (repeat (first | (with_reducible assumption) | (with_reducible exact Below.refl _ _) | ((with_reducible refine Below.alloc ?_ ?hsz _); (case hsz => (first | omega | (simp; done) | (simp; omega) | (simp at *; omega)))) | ((with_reducible refine Below.setCell ?_ ?hsz _); (case hsz => (first | omega | (simp; done) | (simp; omega) | (simp at *; omega)))) | (with_reducible refine Below.drew ?_) | (with_reducible refine below_drewN ?_ _) | ((with_reducible refine Below.trans ?_ (Below.mono (by with_reducible assumption) ?hsz)); (case hsz => (first | omega | (simp; done) | (simp; omega) | (simp at *; omega))))))
          obtain ⟨hzw2, e0, e1, -, -⟩ := id hbx2
          obtain ⟨hcr, hfr, hzr⟩ := bcell hbw2
          clear d0 d1 hown hb hb2 hbx
          go_wp2_with fail
          refine (over_at s _ ps[k] _ HE.out h4 O1.out).mono ?_
          rintro e w3 ⟨rfl, hb3⟩
          have hbx3 := hbx2.keep hb3
          have hown3 := own_keep hown2 (Nat.le_refl _) hb3
          have hbw3 : Below w.heap.size w w3 := by (repeat (first | (with_reducible assumption) | (with_reducible exact Below.refl _ _) | ((with_reducible refine Below.alloc ?_ ?hsz _); (case hsz => (first | omega | (simp; done) | (simp; omega) | (simp at *; omega)))) | ((with_reducible refine Below.setCell ?_ ?hsz _); (case hsz => (first | omega | (simp; done) | (simp; omega) | (simp at *; omega)))) | (with_reducible refine Below.drew ?_) | (with_reducible refine below_drewN ?_ _) | ((with_reducible refine Below.trans ?_ (Below.mono (by with_reducible assumption) ?hsz)); (case hsz => (first | omega | (simp; done) | (simp; omega) | (simp at *; omega))))))
          clear e0 e1 hcr hfr hown2 hbw2 hbx2 hb3
          go_wp2
          go_roundw
          case rel => exact ⟨k + 1, j, g1, k1, by omega, by go_num, rfl, by rw [Hf.out]; exact HJ.out, by rw [Hf.out]; exact hown3, hbw3, hbx3⟩
          case measure => simp [intOf]; omega
      · go_wp2
        go_ret
        have hk2 : k = ps.length := by omega
        subst hk2
        exact ⟨_, rfl, by rw [Hr.out]; exact Ints.mono (b := w.heap.size + 1) ⟨by rw [HJ.out]; exact hown, by rw [HJ.out]; unfold small; omega⟩ (by omega), hb⟩
  · have hs' : sideB n ps s = false := by simpa using hs
    have Hr := Lib.hid (leaving_no hs')
    clear hs
    go_enter Try.func37, Try.ntmps37
    go_wp2
    go_loopw [6, 5] (fun i t wr => i = .int .i64 0 ∧ t = .slice (some ⟨w.heap.size + 1, 0, none⟩) 0 0 ∧ Ints wr w.heap.size (.slice (some ⟨w.heap.size + 1, 0, none⟩) 0 0) [] ∧ Below w.heap.size w wr ∧ Box2 wr w.heap.size (.int .i64 n) (.slice A ps.length c)) (fun _ _ _ => 0)
    case atStart =>
      refine ⟨rfl, rfl, Ints_empty' _ _ _ (by simp) (by simp), by (repeat (first | (with_reducible assumption) | (with_reducible exact Below.refl _ _) | ((with_reducible refine Below.alloc ?_ ?hsz _); (case hsz => (first | omega | (simp; done) | (simp; omega) | (simp at *; omega)))) | ((with_reducible refine Below.setCell ?_ ?hsz _); (case hsz => (first | omega | (simp; done) | (simp; omega) | (simp at *; omega)))) | (with_reducible refine Below.drew ?_) | (with_reducible refine below_drewN ?_ _) | ((with_reducible refine Below.trans ?_ (Below.mono (by with_reducible assumption) ?hsz)); (case hsz => (first | omega | (simp; done) | (simp; omega) | (simp at *; omega)))))), ?_⟩
      exact (Box2.new w _ _ _).keep (by (repeat (first | (with_reducible assumption) | (with_reducible exact Below.refl _ _) | ((with_reducible refine Below.alloc ?_ ?hsz _); (case hsz => (first | omega | (simp; done) | (simp; omega) | (simp at *; omega)))) | ((with_reducible refine Below.setCell ?_ ?hsz _); (case hsz => (first | omega | (simp; done) | (simp; omega) | (simp at *; omega)))) | (with_reducible refine Below.drew ?_) | (with_reducible refine below_drewN ?_ _) | ((with_reducible refine Below.trans ?_ (Below.mono (by with_reducible assumption) ?hsz)); (case hsz => (first | omega | (simp; done) | (simp; omega) | (simp at *; omega)))))))
    case round =>
      obtain ⟨rfl, rfl, hown, hb, hbx⟩ := hrel
      obtain ⟨hzw, d0, d1, -, -⟩ := id hbx
      go_wp2_with (first
        | (go_at_call 38; ((with_reducible refine (specSideOk_any n s _ ps b _ (hp0.keep (by (repeat (first | (with_reducible assumption) | (with_reducible exact Below.refl _ _) | ((with_reducible refine Below.alloc ?_ ?hsz _); (case hsz => (first | omega | (simp; done) | (simp; omega) | (simp at *; omega)))) | ((with_reducible refine Below.setCell ?_ ?hsz _); (case hsz => (first | omega | (simp; done) | (simp; omega) | (simp at *; omega)))) | (with_reducible refine Below.drew ?_) | (with_reducible refine below_drewN ?_ _) | ((with_reducible refine Below.trans ?_ (Below.mono (by with_reducible assumption) ?hsz)); (case hsz => (first | omega | (simp; done) | (simp; omega) | (simp at *; omega))))))))).mono ?_); rintro e w1 ⟨rfl, hb1⟩; obtain ⟨hc1, hf1, hz1⟩ := bcell hb1; (try simp at hz1); (try have hy1 : w.heap.size < w1.heap.size := by omega); (try have hy2 : w.heap.size + 1 < w1.heap.size := by omega); (try have hy3 : w.heap.size + 1 + 1 < w1.heap.size := by omega))))
      all_goals (go_ret; exact ⟨_, rfl, by rw [Hr.out]; first | exact hown | exact hown.keep (by assumption), by (repeat (first | (with_reducible assumption) | (with_reducible exact Below.refl _ _) | ((with_reducible refine Below.alloc ?_ ?hsz _); (case hsz => (first | omega | (simp; done) | (simp; omega) | (simp at *; omega)))) | ((with_reducible refine Below.setCell ?_ ?hsz _); (case hsz => (first | omega | (simp; done) | (simp; omega) | (simp at *; omega)))) | (with_reducible refine Below.drew ?_) | (with_reducible refine below_drewN ?_ _) | ((with_reducible refine Below.trans ?_ (Below.mono (by with_reducible assumption) ?hsz)); (case hsz => (first | omega | (simp; done) | (simp; omega) | (simp at *; omega))))))⟩)

end Go.Proofs.Ytlebamdgcfhdaaa
