/- Contracts of the functions of chapter 11 in the model: FewestBlocks. -/
import Derived.Test.YtmgpekdhcghabaaGreatZD
import Derived.Test.YtmgpekdhcghabaaGreatGR27
import Derived.Test.YtmgpekdhcghabaaGreatGR14
import Derived.Test.YtmgpekdhcghabaaGreatGR26
import Derived.Test.YtmgpekdhcghabaaGreatGR7
namespace Go.Proofs.YtmgpekdhcghabaaGreat
open Go.RowKit

/-- what the operations yield -/
def zfewV (B M c3 g3 : Nat) (n s : Int) (S2 : Value) (L : List Int) : Nat → Value → World → Prop
  | 0, x, _ => x = .agg #[.int .i64 n, S2]
  | 1, x, _ => x = .slice (some ⟨g3, 0, none⟩) M c3
  | 2, x, _ => x = .pointer (some ⟨g3, 0, none⟩)
  | 3, x, _ => x = .int .i64 s
  | 4, x, w => Ints w B x L
  | 5, x, w => Ints w B x L
  | _, _, _ => True
set_option maxHeartbeats 4000000 in
set_option maxRecDepth 20000 in
theorem specFewest_any (n i j : Int) (v : Value) (ps : List Pp) (b : Nat) (w : World) (hp : Pipes w b v ps) :
    Calls Tryz.prog 15 #[.agg #[.int .i64 n, v], .int .i64 i, .int .i64 j] w fun e w' => ∃ r, e = .returned (.tuple #[r, .bool (fewB n ps i j)]) ∧ Ints w' w.heap.size r (fewR n ps i j) ∧ Below w.heap.size w w' := by
  have hp0 := hp
  obtain ⟨A, c, rfl, hc1, hc2, hs, -⟩ := hp.form
  go_enter Tryz.func15, Tryz.ntmps15
  go_wp2_with fail
  refine (specUnit_any n _ ps b _ (hp0.keep (by (repeat (first | (with_reducible assumption) | (with_reducible exact Below.refl _ _) | ((with_reducible refine Below.alloc ?_ ?hsz _); (case hsz => (first | omega | (simp; done) | (simp; omega) | (simp at *; omega)))) | ((with_reducible refine Below.setCell ?_ ?hsz _); (case hsz => (first | omega | (simp; done) | (simp; omega) | (simp at *; omega)))) | (with_reducible refine Below.drew ?_) | (with_reducible refine below_drewN ?_ _) | ((with_reducible refine Below.trans ?_ (Below.mono (by with_reducible assumption) ?hsz)); (case hsz => (first | omega | (simp; done) | (simp; omega) | (simp at *; omega))))))))).mono ?_
  rintro e w1 ⟨s, rfl, hq, hb1⟩
  obtain ⟨N', us, HU⟩ : ∃ N' us, Hid (unitN n ps = N' ∧ unitL n ps = us) := ⟨_, _, Lib.hid ⟨rfl, rfl⟩⟩
  rw [HU.out.2] at hq
  rw [HU.out.1]
  obtain ⟨A2, c2, rfl, hk1, hk2, -, -⟩ := hq.form
  unfold maxLen at hk2
  have hz1 := hb1.size
  rw [World.size_alloc] at hz1
  have hbw1 : Below w.heap.size w w1 := by (repeat (first | (with_reducible assumption) | (with_reducible exact Below.refl _ _) | ((with_reducible refine Below.alloc ?_ ?hsz _); (case hsz => (first | omega | (simp; done) | (simp; omega) | (simp at *; omega)))) | ((with_reducible refine Below.setCell ?_ ?hsz _); (case hsz => (first | omega | (simp; done) | (simp; omega) | (simp at *; omega)))) | (with_reducible refine Below.drew ?_) | (with_reducible refine below_drewN ?_ _) | ((with_reducible refine Below.trans ?_ (Below.mono (by with_reducible assumption) ?hsz)); (case hsz => (first | omega | (simp; done) | (simp; omega) | (simp at *; omega))))))
  obtain ⟨W2, hW2⟩ : ∃ W, W = w1.alloc (.cells #[.int .i64 N', .slice A2 us.length c2] 25) := ⟨_, rfl⟩
  have hb2 : Below w1.heap.size w1 W2 := by rw [hW2]; (repeat (first | (with_reducible assumption) | (with_reducible exact Below.refl _ _) | ((with_reducible refine Below.alloc ?_ ?hsz _); (case hsz => (first | omega | (simp; done) | (simp; omega) | (simp at *; omega)))) | ((with_reducible refine Below.setCell ?_ ?hsz _); (case hsz => (first | omega | (simp; done) | (simp; omega) | (simp at *; omega)))) | (with_reducible refine Below.drew ?_) | (with_reducible refine below_drewN ?_ _) | ((with_reducible refine Below.trans ?_ (Below.mono (by with_reducible assumption) ?hsz)); (case hsz => (first | omega | (simp; done) | (simp; omega) | (simp at *; omega))))))
  have hz2 : w1.heap.size + 1 ≤ W2.heap.size := by rw [hW2]; simp
  have q0 : W2.cell? ⟨w1.heap.size, 0, none⟩ = some (.int .i64 N') := by rw [hW2]; go_simp
  have q1 : W2.cell? ⟨w1.heap.size, 1, none⟩ = some (.slice A2 us.length c2) := by rw [hW2]; go_simp
  have hbw2 := hbw1.trans (hb2.mono (by omega))
  clear hb1
  go_wp2_with fail
  rw [← hW2]
  clear hW2
  refine (specNarrowestOf_any N' i j _ us _ _ (hq.keep hb2)).mono ?_
  rintro e w3 ⟨r, rfl, hS, hb3⟩
  have hz3 := hb3.size
  have hbw3 := hbw2.trans (hb3.mono (by omega))
  have d0 := (hb3.cell (p := ⟨w1.heap.size, 0, none⟩) (by (first | omega | (simp; done) | (simp; omega) | (simp at *; omega)))).trans q0
  have d1 := (hb3.cell (p := ⟨w1.heap.size, 1, none⟩) (by (first | omega | (simp; done) | (simp; omega) | (simp at *; omega)))).trans q1
  have hq3 := (hq.keep hb2).keep hb3
  obtain ⟨A3, c3, rfl, hm1, hm2, -, hcell3⟩ := hS.form
  unfold maxLen at hm2
  by_cases hlen : (narrowL N' us i j).length = 0
  · have hno : endsB n ps i j = false := by
      apply Classical.byContradiction
      intro he
      have he : endsB n ps i j = true := by simpa using he
      obtain ⟨u1, u2⟩ := unit_yes (ends_parts he).1
      have := narrow_some (unit_ends2 he)
      rw [← u2, HU.out.2] at this
      rw [u1] at HU
      have hN := HU.out.1
      rw [hN] at this
      omega
    have HN := Lib.hid (show fewB n ps i j = false ∧ fewR n ps i j = [] by simp [fewB, fewR, hno])
    rw [hlen]
    clear hno hcell3 hS
    go_wp2
    go_ret2
    exact ⟨_, ret_vb HN.out.1.symm, by rw [HN.out.2]; exact Ints_empty' _ _ _ (by omega) rfl, by (repeat (first | (with_reducible assumption) | (with_reducible exact Below.refl _ _) | ((with_reducible refine Below.alloc ?_ ?hsz _); (case hsz => (first | omega | (simp; done) | (simp; omega) | (simp at *; omega)))) | ((with_reducible refine Below.setCell ?_ ?hsz _); (case hsz => (first | omega | (simp; done) | (simp; omega) | (simp at *; omega)))) | (with_reducible refine Below.drew ?_) | (with_reducible refine below_drewN ?_ _) | ((with_reducible refine Below.trans ?_ (Below.mono (by with_reducible assumption) ?hsz)); (case hsz => (first | omega | (simp; done) | (simp; omega) | (simp at *; omega))))))⟩
  · have he : endsB N' us i j = true := by
      apply Classical.byContradiction
      intro hno
      exact hlen (by rw [narrow_none (by simpa using hno)]; rfl)
    have hok : netOkB n ps = true := by
      apply Classical.byContradiction
      intro hno
      obtain ⟨u1, u2⟩ := unit_no (n := n) (ps := ps) (by simpa using hno)
      rw [u1, u2] at HU
      obtain ⟨h1, h2⟩ := HU.out
      subst h1
      subst h2
      exact absurd he (by simp [endsB, netOkB, withinB])
    obtain ⟨u1, u2⟩ := unit_yes hok
    obtain rfl : n = N' := u1.symm.trans HU.out.1
    have hus : ps.map unitP = us := u2.symm.trans HU.out.2
    have hu : unitB us := hus ▸ unit_unitB hok
    have hen : endsB n ps i j = true := by
      simp only [endsB, Bool.and_eq_true] at he ⊢
      exact ⟨⟨⟨hok, he.1.1.2⟩, he.1.2⟩, he.2⟩
    have hs0 := few_side he
    obtain ⟨s, hs⟩ : ∃ s, fewS n us i j = s := ⟨_, rfl⟩
    have hsv : (narrowL n us i j)[0]'(by omega) = s := by
      rw [← hs, fewS, List.getD_eq_getElem?_getD, List.getElem?_eq_getElem (by omega)]; rfl
    rw [hs] at hs0
    obtain ⟨s0, s1, -, -⟩ := (narrow_mem he).1 hs0
    have hside := side_of (ends_parts he).1 s0 s1
    have l7 := (netOk_parts (ends_parts he).1).2.2.1
    have HR := Lib.hid (show fewB n ps i j = true ∧ fewR n ps i j = (leavingL n us s).filter (fun x => !((us.getD x.toNat zeroPp).mo == 0)) by
      refine ⟨hen, ?_⟩
      rw [blk_filter hu hside, fewR, if_pos hen, hus, hs])
    have HLA := Lib.hid (fun x (hx : x ∈ leavingL n us s) => leaving_at hside hx)
    obtain ⟨g3, rfl, -, hg3, c30, -⟩ := hcell3 w3 (Below.refl _ _) 0 (by omega)
    rw [hsv] at c30
    obtain ⟨M, hM⟩ : ∃ M, (narrowL n us i j).length = M := ⟨_, rfl⟩
    rw [hM] at hlen hm1 hS ⊢
    have hM1 : 1 ≤ M := by omega
    have hMb : ((M : Int) == 0) = false := by rw [beq_eq_false_iff_ne]; omega
    have HU7 := Lib.hid (fun q (hq : q < us.length) => show 0 ≤ us[q].mo by have := hu q hq; rw [getD_el hq] at this; exact this.2.1)
    obtain ⟨W5, hW5⟩ : ∃ W, W = w3.alloc (.cells #[] 3) := ⟨_, rfl⟩
    have hb35 : Below w3.heap.size w3 W5 := by rw [hW5]; (repeat (first | (with_reducible assumption) | (with_reducible exact Below.refl _ _) | ((with_reducible refine Below.alloc ?_ ?hsz _); (case hsz => (first | omega | (simp; done) | (simp; omega) | (simp at *; omega)))) | ((with_reducible refine Below.setCell ?_ ?hsz _); (case hsz => (first | omega | (simp; done) | (simp; omega) | (simp at *; omega)))) | (with_reducible refine Below.drew ?_) | (with_reducible refine below_drewN ?_ _) | ((with_reducible refine Below.trans ?_ (Below.mono (by with_reducible assumption) ?hsz)); (case hsz => (first | omega | (simp; done) | (simp; omega) | (simp at *; omega))))))
    have hz5 : w3.heap.size + 1 ≤ W5.heap.size := by rw [hW5]; simp
    have hown5 : Row W5 w3.heap.size w3.heap.size 0 0 [] := by
      rw [hW5]
      exact ⟨World.ownsRow_lit (e := 3) (base := w3.heap.size) (size := 1) w3 #[] 0 (Nat.le_refl _) (by simp [maxLen]) rfl, by simp [small]⟩
    have hg35 : g3 < W5.heap.size := by omega
    have c305 := (hb35.cell (p := ⟨g3, 0, none⟩) hg3).trans c30
    have d03 := d0
    have d13 := d1
    have hq33 := hq3
    have D01 := And.intro ((hb35.cell (p := ⟨w1.heap.size, 0, none⟩) (by (first | omega | (simp; done) | (simp; omega) | (simp at *; omega)))).trans d0) ((hb35.cell (p := ⟨w1.heap.size, 1, none⟩) (by (first | omega | (simp; done) | (simp; omega) | (simp at *; omega)))).trans d1)
    have hq35 := hq3.keep hb35
    clear hcell3 hsv hs0 hs hside hus hu hen he u1 u2 hok s0 s1 hS hm1 HU hM
    go_wp2_with fail
    try rw [hMb]
    rw [← hW5]
    clear hW5 d0 d1 hq3 c30 hg3
    obtain ⟨d0, d1⟩ := D01
    have hq3 := hq35
    have c30 := c305
    have hg3 := hg35
    refine wp_region_flow 6 none [(0, 24), (1, 25), (2, 26), (3, 27), (4, 28), (5, 11)] (fun j x _ wx => zfewV W5.heap.size M c3 g3 n s (.slice A2 us.length c2) (leavingL n us s) j x wx) (fun _ wx wy => Below wx.heap.size wx wy) (fun _ wx => Below W5.heap.size W5 wx) (by kernel_rfl) (by kernel_rfl) rfl ⟨rfl, rfl, rfl, Nat.le_refl _, fun _ _ => rfl⟩ ?_ ?_ ?_ ?_
    · intro i k hi hk hal x u wa wb hbb hV
      have hk' : k < 6 := hk
      rcases k with _ | _ | _ | _ | _ | _ | k
      all_goals first
        | exact hV
        | (exfalso; omega)
        | exact Ints.keep hV hbb
    · exact fun _ _ _ _ _ _ _ h => h
    · simp (maxSteps := 4000000) only [eachOp, fillF, List.setIfInBounds_toArray, List.set_cons_succ, List.set_cons_zero]
      refine ⟨?_, ?_, ?_, ?_, ?_, ?_, trivial⟩ <;> intro u f wx hC hd <;> (try simp [allV, useOf, Region.binds] at hd)
      · have hBz := hC.size
        have e0 := (hC.cell (p := ⟨w1.heap.size, 0, none⟩) (by (first | omega | (simp; done) | (simp; omega) | (simp at *; omega)))).trans d0
        have e1 := (hC.cell (p := ⟨w1.heap.size, 1, none⟩) (by (first | omega | (simp; done) | (simp; omega) | (simp at *; omega)))).trans d1
        go_wp2
        exact ⟨_, rfl, rfl, Below.refl _ _, hC⟩
      · have hBz := hC.size
        go_wp2
        exact ⟨_, rfl, rfl, Below.refl _ _, hC⟩
      · rw [show u 1 = _ from (by first | exact hd | exact hd.1 | exact hd.2 | exact hd.2.1 | exact hd.2.2 | exact hd.2.2.1 | exact hd.2.2.2 | exact hd.2.2.2.1 | exact hd.2.2.2.2)]
        have hBz := hC.size
        go_wp2
        exact ⟨_, rfl, rfl, Below.refl _ _, hC⟩
      · rw [show u 2 = _ from (by first | exact hd | exact hd.1 | exact hd.2 | exact hd.2.1 | exact hd.2.2 | exact hd.2.2.1 | exact hd.2.2.2 | exact hd.2.2.2.1 | exact hd.2.2.2.2)]
        have hBz := hC.size
        have e3 := (hC.cell (p := ⟨g3, 0, none⟩) hg3).trans c30
        go_wp2
        exact ⟨_, rfl, rfl, Below.refl _ _, hC⟩
      · rw [show u 0 = _ from (by first | exact hd | exact hd.1 | exact hd.2 | exact hd.2.1 | exact hd.2.2 | exact hd.2.2.1 | exact hd.2.2.2 | exact hd.2.2.2.1 | exact hd.2.2.2.2), show u 3 = _ from (by first | exact hd | exact hd.1 | exact hd.2 | exact hd.2.1 | exact hd.2.2 | exact hd.2.2.1 | exact hd.2.2.2 | exact hd.2.2.2.1 | exact hd.2.2.2.2)]
        have hBz := hC.size
        go_wp2_with fail
        refine (specLeavingOf_any n s _ us _ wx (hq3.keep hC)).mono ?_
        rintro e wy ⟨r, rfl, hr, hby⟩
        go_wp2
        exact ⟨_, rfl, hr.mono hBz, hby, hC.trans (hby.mono hBz)⟩
      · have hBz := hC.size
        have hL : Ints wx W5.heap.size (u 4) (leavingL n us s) := (by first | exact hd | exact hd.1 | exact hd.2)
        go_wp2
        exact ⟨_, rfl, hL, Below.refl _ _, hC⟩
    · intro u f wx hC hfin
      simp only [fillEnd, fillF, Act.put, List.setIfInBounds_toArray, List.set_cons_succ, List.set_cons_zero]
      have hfR : Ints wx W5.heap.size (u 5) (leavingL n us s) := hfin 5 (by decide) (by decide)
      obtain ⟨vL, hvL⟩ : ∃ vL, u 5 = vL := ⟨_, rfl⟩
      rw [hvL] at hfR ⊢
      have hown0 := hown5.keep hC
      clear hfin hvL
      have hzx := hC.size
      have d0x := (hC.cell (p := ⟨w1.heap.size, 0, none⟩) (by (first | omega | (simp; done) | (simp; omega) | (simp at *; omega)))).trans d0
      have d1x := (hC.cell (p := ⟨w1.heap.size, 1, none⟩) (by (first | omega | (simp; done) | (simp; omega) | (simp at *; omega)))).trans d1
      have hqx := hq3.keep hC
      have hL0 := hfR
      obtain ⟨AL, cL, rfl, hl1, hl2, hl3, -⟩ := hfR.form
      unfold maxLen at hl2
      obtain ⟨lL, hlL⟩ : ∃ l, (leavingL n us s).length = l := ⟨_, rfl⟩
      have HLL := Lib.hid hlL
      rw [hlL] at hl1 hl3 hL0 ⊢
      clear hlL hfR
      obtain ⟨i0, hi0, hz00, hz10, hz20⟩ := info_parts int_info
      go_wp2_with fail
      go_loopw [12, 10] (fun a o wr => ∃ (k j g1 k1 : Nat) (zs : List Int), k ≤ lL ∧ a = .int .i64 k ∧ o = .slice (some ⟨g1, 0, none⟩) j k1 ∧ zs = ((leavingL n us s).take k).filter (fun x => !((us.getD x.toNat zeroPp).mo == 0)) ∧ j ≤ k ∧
          Row wr w3.heap.size g1 j k1 zs ∧ Ints wr W5.heap.size (.slice AL lL cL) (leavingL n us s) ∧ (∀ q, (Value.slice AL lL cL).ownBlock = some q → q ≠ g1) ∧ Below w3.heap.size w3 wr ∧ wx.heap.size ≤ wr.heap.size) (fun a _ _ => lL - (intOf a).toNat)
      case atStart =>
        exact ⟨0, 0, w3.heap.size, 0, [], by omega, rfl, rfl, by simp, by omega, hown0, hL0, fun q hq => by have := (hL0.1.lt q hq).1; omega, hb35.trans (hC.mono (by omega)), Nat.le_refl _⟩
      case round =>
        obtain ⟨k, j, g1, k1, zs, hk, rfl, rfl, hzs, hjk, hR, hLr, hne, hb, hzr⟩ := hrel
        have hbz := hb.size
        have e0 := (hb.cell (p := ⟨w1.heap.size, 0, none⟩) (by (first | omega | (simp; done) | (simp; omega) | (simp at *; omega)))).trans d03
        have e1 := (hb.cell (p := ⟨w1.heap.size, 1, none⟩) (by (first | omega | (simp; done) | (simp; omega) | (simp at *; omega)))).trans d13
        have hqr := hq33.keep hb
        have hjl := hR.len
        by_cases hlt : k < lL
        · have hkx : k < (leavingL n us s).length := by have := HLL.out; omega
          obtain ⟨AL', cL', hv, -, -, -, hcell⟩ := hLr.form
          injection hv with e1' e2' e3'
          obtain ⟨gL, hAL, hgB, hgw, cx, -⟩ := hcell wr (Below.refl _ _) k hkx
          rw [hAL] at e1'
          subst e1'
          clear e2' e3' hcell
          obtain ⟨q, hqe, hq7⟩ := HLA.out _ (List.getElem_mem hkx)
          have Ht := Lib.hid (List.take_succ_eq_append_getElem hkx)
          rw [hqe] at cx
          obtain ⟨AU, cU, hvU, hu1, hu2, -, hcellU⟩ := hqr.form
          injection hvU with u1' u2' u3'
          obtain ⟨gU, hAU, -, hgU, c0, c1, c2, c3', c4⟩ := hcellU wr (Below.refl _ _) q hq7
          rw [hAU] at u1'
          subst u1'
          subst u3'
          unfold maxLen at hu2
          have HZ := Lib.hid hzs
          have HR := Lib.hid hR
          have HLR := Lib.hid hLr
          have Hne := Lib.hid hne
          have HQE := Lib.hid hqe
          have HM := Lib.hid (show (us.getD ((q : Int)).toNat zeroPp) = us[q] by rw [Int.toNat_natCast]; exact getD_el hq7)
          clear hcellU hzs hR hLr hne hAU hAL u2' hqe
          have hmm := HU7.out q hq7
          by_cases hmo : 0 < us[q].mo
          · have Hn := Lib.hid (show ((leavingL n us s).take (k + 1)).filter (fun x => !((us.getD x.toNat zeroPp).mo == 0)) = zs ++ [(q : Int)] by
              rw [Ht.out, List.filter_append, ← HZ.out, HQE.out]
              congr 1
              rw [List.filter_cons_of_pos (by rw [HM.out]; simp; omega)]
              rfl)
            go_wp2_with fail
            go_quiet (fail)
            obtain ⟨wq, hwq⟩ : ∃ W, W = wr.drewN nq := ⟨_, rfl⟩
            have hRq : Row wq w3.heap.size g1 j k1 zs := by rw [hwq]; exact ⟨HR.out.1, HR.out.2⟩
            have hLq : Ints wq W5.heap.size (.slice (some ⟨gL, 0, none⟩) lL cL) (leavingL n us s) := by rw [hwq]; exact ⟨HLR.out.1, HLR.out.2⟩
            have hbq : Below w3.heap.size w3 wq := by rw [hwq]; (repeat (first | (with_reducible assumption) | (with_reducible exact Below.refl _ _) | ((with_reducible refine Below.alloc ?_ ?hsz _); (case hsz => (first | omega | (simp; done) | (simp; omega) | (simp at *; omega)))) | ((with_reducible refine Below.setCell ?_ ?hsz _); (case hsz => (first | omega | (simp; done) | (simp; omega) | (simp at *; omega)))) | (with_reducible refine Below.drew ?_) | (with_reducible refine below_drewN ?_ _) | ((with_reducible refine Below.trans ?_ (Below.mono (by with_reducible assumption) ?hsz)); (case hsz => (first | omega | (simp; done) | (simp; omega) | (simp at *; omega))))))
            have hzq : wr.heap.size ≤ wq.heap.size := by rw [hwq]; simp
            have cxq : wq.cell? ⟨gL, k, none⟩ = some (.int .i64 q) := by rw [hwq]; simpa using cx
            rw [← hwq]
            clear hwq
            have hrow : ∀ q', (Value.slice (some ⟨g1, 0, none⟩) j k1).ownBlock = some q' → w3.heap.size ≤ q' := fun q' hq' => (HR.out.1.lt q' hq').1
            go_wp2_with (first
              | (at_builtin
                 go_must (refine wpList_append_lies _ rfl _ _ 30 rfl w3.heap.size 3 i0 _ 1 8 Tryz.underlying30 hi0 hz00 hz10 hz20 rfl (by omega) _ j _ rfl ((hRq.1).alloc _) ⟨wq.heap.size, 0, none⟩ 1 1 [.int .i64 q] rfl rfl (World.news_of_block (cs := #[.int .i64 q]) (t := 3) (fr := (0, 0)) (heap_alloc_new _ _)) (by simp [Value.oneCell']) (by omega) (by unfold maxLen; omega) (by omega) (by simp; omega) (wq.heap.size + 1) (by simp) ?_)
                 intro g2 k2 w7 hown7 hgr7 hat7 hlt7))
            have hb7 : Below w3.heap.size w3 w7 := by
              refine Below.grown (w := wq.alloc (.cells #[.int .i64 q] 3)) (by (repeat (first | (with_reducible assumption) | (with_reducible exact Below.refl _ _) | ((with_reducible refine Below.alloc ?_ ?hsz _); (case hsz => (first | omega | (simp; done) | (simp; omega) | (simp at *; omega)))) | ((with_reducible refine Below.setCell ?_ ?hsz _); (case hsz => (first | omega | (simp; done) | (simp; omega) | (simp at *; omega)))) | (with_reducible refine Below.drew ?_) | (with_reducible refine below_drewN ?_ _) | ((with_reducible refine Below.trans ?_ (Below.mono (by with_reducible assumption) ?hsz)); (case hsz => (first | omega | (simp; done) | (simp; omega) | (simp at *; omega))))))) hgr7 (by (first | omega | (simp; done) | (simp; omega) | (simp at *; omega))) (fun q' hq' => hrow q' hq')
            have hR8 : Row w7 w3.heap.size g2 (j + 1) k2 (zs ++ [(q : Int)]) := ⟨by rw [List.map_append]; exact hown7, by unfold small; omega⟩
            have hg1r := hRq.lt.2
            have hgLq := (hLq.1.lt gL rfl).2
            have hL8 : Ints w7 W5.heap.size (.slice (some ⟨gL, 0, none⟩) lL cL) (leavingL n us s) := ⟨((hLq.1).alloc _).kept hgr7 (.inr fun e => Hne.out gL rfl (by have e : some gL = some g1 := e; injection e)), HLR.out.2⟩
            have hne8 : ∀ q', (Value.slice (some ⟨gL, 0, none⟩) lL cL).ownBlock = some q' → q' ≠ g2 := fun q' hq' e => by
              subst e
              rcases hat7 with h | h
              · exact Hne.out q' hq' (by injection h with h; exact h.symm)
              · have : gL = q' := by injection hq'
                omega
            have hz7 := hgr7.size
            clear hown7 hat7 hlt7
            go_roundw
            case rel => exact ⟨k + 1, j + 1, g2, k2, _, by omega, by go_num, rfl, Hn.out.symm, by omega, hR8, hL8, hne8, hb7, by simp at hz7; omega⟩
            case measure => simp [intOf]; omega
          · have Hn := Lib.hid (show ((leavingL n us s).take (k + 1)).filter (fun x => !((us.getD x.toNat zeroPp).mo == 0)) = zs by
              rw [Ht.out, List.filter_append, ← HZ.out, HQE.out, List.filter_cons_of_neg (by rw [HM.out]; simp; omega)]
              simp)
            go_wp2_with fail
            go_quiet (fail)
            go_wp2
            go_roundw
            case rel => exact ⟨k + 1, j, g1, k1, zs, by omega, by go_num, rfl, Hn.out.symm, by omega, ⟨HR.out.1, HR.out.2⟩, ⟨HLR.out.1, HLR.out.2⟩, Hne.out, by (repeat (first | (with_reducible assumption) | (with_reducible exact Below.refl _ _) | ((with_reducible refine Below.alloc ?_ ?hsz _); (case hsz => (first | omega | (simp; done) | (simp; omega) | (simp at *; omega)))) | ((with_reducible refine Below.setCell ?_ ?hsz _); (case hsz => (first | omega | (simp; done) | (simp; omega) | (simp at *; omega)))) | (with_reducible refine Below.drew ?_) | (with_reducible refine below_drewN ?_ _) | ((with_reducible refine Below.trans ?_ (Below.mono (by with_reducible assumption) ?hsz)); (case hsz => (first | omega | (simp; done) | (simp; omega) | (simp at *; omega)))))), by (first | omega | (simp; done) | (simp; omega) | (simp at *; omega))⟩
            case measure => simp [intOf]; omega
        · have hk2 : k = lL := by omega
          subst hk2
          rw [List.take_of_length_le (by rw [HLL.out]; exact Nat.le_refl _)] at hzs
          have HZ := Lib.hid (And.intro hzs (And.intro hR.ints (hbw3.trans (hb.mono (by omega)))))
          clear hzs hR hLr hb
          go_wp2
          go_ret2
          exact ⟨_, ret_vb HR.out.1.symm, by rw [HR.out.2, ← HZ.out.1]; exact HZ.out.2.1.mono (by omega), HZ.out.2.2⟩

end Go.Proofs.YtmgpekdhcghabaaGreat
