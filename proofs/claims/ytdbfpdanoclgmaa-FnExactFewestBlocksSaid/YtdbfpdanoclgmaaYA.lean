/- Contracts of the functions of chapter 11 in the program: FewestBlocks. -/
import Derived.Test.YtdbfpdanoclgmaaY7
import Derived.Test.YtdbfpdanoclgmaaY9
import Derived.Test.YtdbfpdanoclgmaaWB
namespace Go.Proofs.Ytdbfpdanoclgmaa
open Go.RowKit

set_option maxHeartbeats 1000000 in
set_option maxRecDepth 20000 in
theorem delFn_any (k bn b : Nat) (v : Value) (us : List Pp) (w : World) (hp : Pipes w b v us) (d1 : w.cell? ⟨bn, 1, none⟩ = some v) (hk : k < us.length) :
    Calls Try.prog 52 #[.int .i64 (k : Int), .pointer (some ⟨bn, 0, none⟩)] w fun e w' => e = .returned (.bool ((us.getD (k : Int).toNat zeroPp).mo == 0)) ∧ Below w.heap.size w w' := by
  have HE := Lib.hid (show (us.getD (k : Int).toNat zeroPp) = us[k] by rw [Int.toNat_natCast]; exact getD_el hk)
  obtain ⟨A, c, rfl, hc1, hc2, hs, hcell⟩ := hp.form
  unfold maxLen at hc2
  obtain ⟨g, rfl, hg1, hg2, c0, c1, c2, c3, c4⟩ := hcell w (Below.refl _ _) k hk
  go_enter Try.func52, Try.ntmps52
  go_wp2
  go_ret
  exact ⟨by rw [HE.out]; rfl, by (repeat (first | (with_reducible assumption) | (with_reducible exact Below.refl _ _) | ((with_reducible refine Below.alloc ?_ ?hsz _); (case hsz => (first | omega | (simp; done) | (simp; omega) | (simp at *; omega)))) | ((with_reducible refine Below.setCell ?_ ?hsz _); (case hsz => (first | omega | (simp; done) | (simp; omega) | (simp at *; omega)))) | (with_reducible refine Below.drew ?_) | (with_reducible refine below_drewN ?_ _) | ((with_reducible refine Below.trans ?_ (Below.mono (by with_reducible assumption) ?hsz)); (case hsz => (first | omega | (simp; done) | (simp; omega) | (simp at *; omega))))))⟩

/-- what the operations yield -/
def fewV (B M c3 g3 : Nat) (n s : Int) (S2 fv : Value) (L R : List Int) : Nat → Value → World → Prop
  | 0, x, _ => x = .agg #[.int .i64 n, S2]
  | 1, x, _ => x = .slice (some ⟨g3, 0, none⟩) M c3
  | 2, x, _ => x = .pointer (some ⟨g3, 0, none⟩)
  | 3, x, _ => x = .int .i64 s
  | 4, x, w => Ints w B x L
  | 5, x, _ => x = fv
  | 6, x, w => Ints w B x R
  | 7, x, w => Ints w B x R
  | 8, x, _ => x = .bool true
  | _, _, _ => True
set_option maxHeartbeats 4000000 in
set_option maxRecDepth 20000 in
theorem fewest_any (n i j : Int) (v : Value) (ps : List Pp) (b : Nat) (w : World) (hp : Pipes w b v ps) :
    Calls Try.prog 22 #[.agg #[.int .i64 n, v], .int .i64 i, .int .i64 j] w fun e w' => ∃ r, e = .returned (.tuple #[r, .bool (fewB n ps i j)]) ∧ Ints w' w.heap.size r (fewR n ps i j) ∧ Below w.heap.size w w' := by
  have hp0 := hp
  obtain ⟨A, c, rfl, hc1, hc2, hs, -⟩ := hp.form
  go_enter Try.func22, Try.ntmps22
  go_wp2_with fail
  refine (unitNet_any n _ ps b _ (hp0.keep (by (repeat (first | (with_reducible assumption) | (with_reducible exact Below.refl _ _) | ((with_reducible refine Below.alloc ?_ ?hsz _); (case hsz => (first | omega | (simp; done) | (simp; omega) | (simp at *; omega)))) | ((with_reducible refine Below.setCell ?_ ?hsz _); (case hsz => (first | omega | (simp; done) | (simp; omega) | (simp at *; omega)))) | (with_reducible refine Below.drew ?_) | (with_reducible refine below_drewN ?_ _) | ((with_reducible refine Below.trans ?_ (Below.mono (by with_reducible assumption) ?hsz)); (case hsz => (first | omega | (simp; done) | (simp; omega) | (simp at *; omega))))))))).mono ?_
  rintro e w1 ⟨s, rfl, hq, hb1⟩
  obtain ⟨N', us, HU⟩ : ∃ N' us, Hid (unitN n ps = N' ∧ unitL n ps = us) := ⟨_, _, Lib.hid ⟨rfl, rfl⟩⟩
  rw [HU.out.2] at hq
  rw [HU.out.1]
  obtain ⟨A2, c2, rfl, hk1, hk2, -, -⟩ := hq.form
  unfold maxLen at hk2
  have hz1 := hb1.size
  rw [World.size_alloc] at hz1
  have hbw1 : Below w.heap.size w w1 := by (repeat (first | (with_reducible assumption) | (with_reducible exact Below.refl _ _) | ((with_reducible refine Below.alloc ?_ ?hsz _); (case hsz => (first | omega | (simp; done) | (simp; omega) | (simp at *; omega)))) | ((with_reducible refine Below.setCell ?_ ?hsz _); (case hsz => (first | omega | (simp; done) | (simp; omega) | (simp at *; omega)))) | (with_reducible refine Below.drew ?_) | (with_reducible refine below_drewN ?_ _) | ((with_reducible refine Below.trans ?_ (Below.mono (by with_reducible assumption) ?hsz)); (case hsz => (first | omega | (simp; done) | (simp; omega) | (simp at *; omega))))))
  obtain ⟨W2, hW2⟩ : ∃ W, W = w1.alloc (.cells #[.int .i64 N', .slice A2 us.length c2] 28) := ⟨_, rfl⟩
  have hb2 : Below w1.heap.size w1 W2 := by rw [hW2]; (repeat (first | (with_reducible assumption) | (with_reducible exact Below.refl _ _) | ((with_reducible refine Below.alloc ?_ ?hsz _); (case hsz => (first | omega | (simp; done) | (simp; omega) | (simp at *; omega)))) | ((with_reducible refine Below.setCell ?_ ?hsz _); (case hsz => (first | omega | (simp; done) | (simp; omega) | (simp at *; omega)))) | (with_reducible refine Below.drew ?_) | (with_reducible refine below_drewN ?_ _) | ((with_reducible refine Below.trans ?_ (Below.mono (by with_reducible assumption) ?hsz)); (case hsz => (first | omega | (simp; done) | (simp; omega) | (simp at *; omega))))))
  have hz2 : w1.heap.size + 1 ≤ W2.heap.size := by rw [hW2]; simp
  have q0 : W2.cell? ⟨w1.heap.size, 0, none⟩ = some (.int .i64 N') := by rw [hW2]; go_simp
  have q1 : W2.cell? ⟨w1.heap.size, 1, none⟩ = some (.slice A2 us.length c2) := by rw [hW2]; go_simp
  have hbw2 := hbw1.trans (hb2.mono (by omega))
  clear hb1
  go_wp2_with fail
  rw [← hW2]
  clear hW2
  refine (narrowestOf_any N' i j _ us _ _ (hq.keep hb2)).mono ?_
  rintro e w3 ⟨r, rfl, hS, hb3⟩
  have hz3 := hb3.size
  have hbw3 := hbw2.trans (hb3.mono (by omega))
  have d0 := (hb3.cell (p := ⟨w1.heap.size, 0, none⟩) (by (first | omega | (simp; done) | (simp; omega) | (simp at *; omega)))).trans q0
  have d1 := (hb3.cell (p := ⟨w1.heap.size, 1, none⟩) (by (first | omega | (simp; done) | (simp; omega) | (simp at *; omega)))).trans q1
  have hq3 := (hq.keep hb2).keep hb3
  obtain ⟨A3, c3, rfl, hm1, hm2, -, hcell3⟩ := hS.form
  unfold maxLen at hm2
  by_cases hlen : (narrowL N' us i j).length = 0
  · have hno : endsB n ps i j = false := by
      apply Classical.byContradiction
      intro he
      have he : endsB n ps i j = true := by simpa using he
      obtain ⟨u1, u2⟩ := unit_yes (ends_parts he).1
      have := narrow_some (unit_ends2 he)
      rw [← u2, HU.out.2] at this
      rw [u1] at HU
      have hN := HU.out.1
      rw [hN] at this
      omega
    have HN := Lib.hid (show fewB n ps i j = false ∧ fewR n ps i j = [] by simp [fewB, fewR, hno])
    rw [hlen]
    clear hno hcell3 hS
    go_wp2
    go_ret2
    exact ⟨_, ret_vb HN.out.1.symm, by rw [HN.out.2]; exact Ints_nil _ _, hbw3⟩
  · have he : endsB N' us i j = true := by
      apply Classical.byContradiction
      intro hno
      exact hlen (by rw [narrow_none (by simpa using hno)]; rfl)
    have hok : netOkB n ps = true := by
      apply Classical.byContradiction
      intro hno
      obtain ⟨u1, u2⟩ := unit_no (n := n) (ps := ps) (by simpa using hno)
      rw [u1, u2] at HU
      obtain ⟨h1, h2⟩ := HU.out
      subst h1
      subst h2
      exact absurd he (by simp [endsB, netOkB, withinB])
    obtain ⟨u1, u2⟩ := unit_yes hok
    obtain rfl : n = N' := u1.symm.trans HU.out.1
    have hus : ps.map unitP = us := u2.symm.trans HU.out.2
    have hu : unitB us := hus ▸ unit_unitB hok
    have hen : endsB n ps i j = true := by
      simp only [endsB, Bool.and_eq_true] at he ⊢
      exact ⟨⟨⟨hok, he.1.1.2⟩, he.1.2⟩, he.2⟩
    have hs0 := few_side he
    obtain ⟨s, hs⟩ : ∃ s, fewS n us i j = s := ⟨_, rfl⟩
    have hsv : (narrowL n us i j)[0]'(by omega) = s := by
      rw [← hs, fewS, List.getD_eq_getElem?_getD, List.getElem?_eq_getElem (by omega)]; rfl
    rw [hs] at hs0
    obtain ⟨s0, s1, -, -⟩ := (narrow_mem he).1 hs0
    have hside := side_of (ends_parts he).1 s0 s1
    have l7 := (netOk_parts (ends_parts he).1).2.2.1
    have HR := Lib.hid (show fewB n ps i j = true ∧ fewR n ps i j = (leavingL n us s).filter (fun x => !((us.getD x.toNat zeroPp).mo == 0)) by
      refine ⟨hen, ?_⟩
      rw [blk_filter hu hside, fewR, if_pos hen, hus, hs])
    have HLA := Lib.hid (fun x (hx : x ∈ leavingL n us s) => leaving_at hside hx)
    obtain ⟨g3, rfl, -, hg3, c30, -⟩ := hcell3 w3 (Below.refl _ _) 0 (by omega)
    rw [hsv] at c30
    obtain ⟨M, hM⟩ : ∃ M, (narrowL n us i j).length = M := ⟨_, rfl⟩
    rw [hM] at hlen hm1 hS ⊢
    have hM1 : 1 ≤ M := by omega
    have hMb : ((M : Int) == 0) = false := by rw [beq_eq_false_iff_ne]; omega
    clear hcell3 hsv hs0 hs hside hus hu hen he u1 u2 hok s0 s1 hS hm1 HU hM
    go_wp2_with fail
    try rw [hMb]
    refine wp_region_flow 9 none [(0, 19), (1, 20), (2, 21), (3, 22), (4, 23), (5, 24), (6, 25), (7, 6), (8, 7)] (fun j x _ wx => fewV w3.heap.size M c3 g3 n s (.slice A2 us.length c2) (.func (Fn.func 52) #[] #[.pointer (some ⟨w1.heap.size, 0, none⟩)]) (leavingL n us s) ((leavingL n us s).filter (fun x => !((us.getD x.toNat zeroPp).mo == 0))) j x wx) (fun i wx wy => if i = 6 then True else Below wx.heap.size wx wy) (fun _ wx => Below w3.heap.size w3 wx) (by kernel_rfl) (by kernel_rfl) rfl ⟨rfl, rfl, rfl, Nat.le_refl _, fun _ _ => rfl⟩ ?_ ?_ ?_ ?_
    · intro i k hi hk hal x u wa wb hR hV
      have hk' : k < 9 := hk
      have hi' : i < 9 := hi
      by_cases ii : i = 6
      · subst ii
        rcases k with _ | _ | _ | _ | _ | _ | _ | _ | _ | k
        all_goals first | exact hV | (exfalso; revert hal; decide) | (exfalso; omega)
      · have hbb : Below wa.heap.size wa wb := by simpa [ii] using hR
        rcases k with _ | _ | _ | _ | _ | _ | _ | _ | _ | k
        all_goals first
          | exact hV
          | (exfalso; omega)
          | exact Ints.keep hV hbb
    · exact fun _ _ _ _ _ _ _ h => h
    · simp (maxSteps := 4000000) only [eachOp, fillF, List.setIfInBounds_toArray, List.set_cons_succ, List.set_cons_zero]
      refine ⟨?_, ?_, ?_, ?_, ?_, ?_, ?_, ?_, ?_, trivial⟩ <;> intro u f wx hC hd <;> (try simp [allV, useOf, Region.binds] at hd)
      · have hBz := hC.size
        have e0 := (hC.cell (p := ⟨w1.heap.size, 0, none⟩) (by (first | omega | (simp; done) | (simp; omega) | (simp at *; omega)))).trans d0
        have e1 := (hC.cell (p := ⟨w1.heap.size, 1, none⟩) (by (first | omega | (simp; done) | (simp; omega) | (simp at *; omega)))).trans d1
        go_wp2
        exact ⟨_, rfl, rfl, Below.refl _ _, hC⟩
      · have hBz := hC.size
        go_wp2
        exact ⟨_, rfl, rfl, Below.refl _ _, hC⟩
      · rw [show u 1 = _ from (by first | exact hd | exact hd.1 | exact hd.2 | exact hd.2.1 | exact hd.2.2 | exact hd.2.2.1 | exact hd.2.2.2 | exact hd.2.2.2.1 | exact hd.2.2.2.2)]
        have hBz := hC.size
        go_wp2
        exact ⟨_, rfl, rfl, Below.refl _ _, hC⟩
      · rw [show u 2 = _ from (by first | exact hd | exact hd.1 | exact hd.2 | exact hd.2.1 | exact hd.2.2 | exact hd.2.2.1 | exact hd.2.2.2 | exact hd.2.2.2.1 | exact hd.2.2.2.2)]
        have hBz := hC.size
        have e3 := (hC.cell (p := ⟨g3, 0, none⟩) hg3).trans c30
        go_wp2
        exact ⟨_, rfl, rfl, Below.refl _ _, hC⟩
      · rw [show u 0 = _ from (by first | exact hd | exact hd.1 | exact hd.2 | exact hd.2.1 | exact hd.2.2 | exact hd.2.2.1 | exact hd.2.2.2 | exact hd.2.2.2.1 | exact hd.2.2.2.2), show u 3 = _ from (by first | exact hd | exact hd.1 | exact hd.2 | exact hd.2.1 | exact hd.2.2 | exact hd.2.2.1 | exact hd.2.2.2 | exact hd.2.2.2.1 | exact hd.2.2.2.2)]
        have hBz := hC.size
        go_wp2_with fail
        refine (leavingOf_any n s _ us _ wx (hq3.keep hC)).mono ?_
        rintro e wy ⟨r, rfl, hr, hby⟩
        go_wp2
        exact ⟨_, rfl, hr.mono hBz, hby, hC.trans (hby.mono hBz)⟩
      · have hBz := hC.size
        go_wp2
        exact ⟨_, rfl, rfl, Below.refl _ _, hC⟩
      · rw [show u 5 = _ from (by first | exact hd | exact hd.1 | exact hd.2 | exact hd.2.1 | exact hd.2.2 | exact hd.2.2.1 | exact hd.2.2.2 | exact hd.2.2.2.1 | exact hd.2.2.2.2)]
        have hBz := hC.size
        have hL : Ints wx w3.heap.size (u 4) (leavingL n us s) := (by first | exact hd | exact hd.1 | exact hd.2)
        obtain ⟨AL, cL, hv, -, -, -, -⟩ := hL.form
        obtain ⟨lL, hlL⟩ : ∃ l, (leavingL n us s).length = l := ⟨_, rfl⟩
        rw [hlL] at hv
        rw [hv] at hL ⊢
        clear hv hd
        go_wp2_with fail
        refine (deleteFunc_any (del := fun x => (us.getD x.toNat zeroPp).mo == 0) (bn := w1.heap.size) _ _ w3.heap.size wx hBz hL (fun W hW x hx => ?_)).mono ?_
        · obtain ⟨k, rfl, hk⟩ := HLA.out x hx
          have hBW := hC.trans hW
          exact delFn_any k w1.heap.size _ _ us W (hq3.keep hBW) ((hBW.cell (p := ⟨w1.heap.size, 1, none⟩) (by (first | omega | (simp; done) | (simp; omega) | (simp at *; omega)))).trans d1) hk
        rintro e wy ⟨r, rfl, hr, hby⟩
        go_wp2
        exact ⟨_, rfl, hr, (if_pos rfl ▸ trivial : (if (6 : Nat) = 6 then True else _)), hC.trans hby⟩
      · have hBz := hC.size
        have hL : Ints wx w3.heap.size (u 6) ((leavingL n us s).filter (fun x => !((us.getD x.toNat zeroPp).mo == 0))) := (by first | exact hd | exact hd.1 | exact hd.2)
        go_wp2
        exact ⟨_, rfl, hL, Below.refl _ _, hC⟩
      · have hBz := hC.size
        go_wp2
        exact ⟨_, rfl, rfl, Below.refl _ _, hC⟩
    · intro u f wx hC hfin
      simp only [fillEnd, fillF, Act.put, List.setIfInBounds_toArray, List.set_cons_succ, List.set_cons_zero]
      have hfR : Ints wx w3.heap.size (u 7) ((leavingL n us s).filter (fun x => !((us.getD x.toNat zeroPp).mo == 0))) := hfin 7 (by decide) (by decide)
      rw [show u 8 = _ from hfin 8 (by decide) (by decide)]
      have HFI := Lib.hid (And.intro (hfR.mono (b' := w.heap.size) (by omega)) (hbw3.trans (hC.mono (by omega))))
      obtain ⟨rv, hrv⟩ : ∃ rv, u 7 = rv := ⟨_, rfl⟩
      rw [hrv] at HFI ⊢
      clear hfin hfR hC hrv
      go_wp2
      go_ret2
      exact ⟨_, ret_vb HR.out.1.symm, by rw [HR.out.2]; exact HFI.out.1, HFI.out.2⟩

end Go.Proofs.Ytdbfpdanoclgmaa
