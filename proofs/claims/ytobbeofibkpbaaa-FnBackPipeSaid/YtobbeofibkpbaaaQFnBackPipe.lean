/- FnBackPipe: for every code the law holds: with a pipe from the second one to the first one of two nodes, that holds just so much, a free net has a circulation exactly if so much is at most the greatest value from the first one to the second one. No condition. -/
import Derived.Test.YtobbeofibkpbaaaGZ56
import Derived.Test.YtobbeofibkpbaaaGZ26
import Derived.Test.YtobbeofibkpbaaaGZ57
import Derived.Test.YtobbeofibkpbaaaGZ24
import Derived.Test.YtobbeofibkpbaaaGZ1
import Derived.Test.YtobbeofibkpbaaaMG
namespace Go.Proofs.Ytobbeofibkpbaaa.lawBackPipe
open Go.ChangeShapes Go.WideShapes Go.ChangeAt Go.RowKit Go.Deep Go.Joins

theorem room_app (s : Int) (ps : List Pp) (q : Pp) : room s (ps ++ [q]) = room s ps + acT s q q.mo q.le := by simp [room]

theorem free_room {n : Int} {ps : List Pp} (hf : freeB n ps = true) (s : Int) : 0 ≤ room s ps := by
  have hh := free_holds hf
  have hn := holds_net hh
  have hp := holds_parts hh
  have h1 := across_room (s := s) hp.2.1 hp.2.2
  have h2 := across_exc (s := s) (zeros ps) hn
  have h3 : sideExc n.toNat s ps (zeros ps) = 0 := nodeSum_zero _ _ fun k _ => by rw [exc_zeros]; simp
  omega

theorem back {n i j M : Int} {ps : List Pp} (hg : greatB n ps i j = true) (hM : 0 ≤ M) (hw : withB n ps ⟨j, i, M, M, 0⟩ = true) : circB n (ps ++ [⟨j, i, M, M, 0⟩]) = decide (M ≤ greatV n ps i j) := by
  obtain ⟨hf, he⟩ := great_parts hg
  have hcut := great_cut hg
  cases hc : circB n (ps ++ [⟨j, i, M, M, 0⟩]) with
  | false =>
    obtain ⟨s, s0, s1, hs⟩ := (circ_blocks hw).1 hc
    rw [room_app] at hs
    have h0 := free_room hf s
    symm
    rw [decide_eq_false_iff_not]
    intro hle
    unfold acT at hs
    dsimp only at hs
    by_cases h1 : partsB s j i = true
    · rw [if_pos h1] at hs; omega
    · rw [if_neg h1] at hs
      by_cases h2 : partsB s i j = true
      · rw [if_pos h2] at hs
        have := least_le (ps := ps) s0 s1 h2
        omega
      · rw [if_neg h2] at hs; omega
  | true =>
    symm
    rw [decide_eq_true_eq]
    apply Classical.byContradiction
    intro hgt
    obtain ⟨s, s0, s1, hp, hr⟩ := least_at he
    have : circB n (ps ++ [⟨j, i, M, M, 0⟩]) = false := by
      rw [circ_blocks hw]
      refine ⟨s, s0, s1, ?_⟩
      rw [room_app]
      unfold acT
      dsimp only
      rw [if_neg (by rw [parts_one hp]; simp), if_pos hp]
      omega
    rw [this] at hc
    cases hc

set_option maxRecDepth 20000 in
set_option maxHeartbeats 4000000 in
set_option maxRecDepth 20000 in
theorem walk (v : Value) (n : Nat) (w : World) (h : ArgBytes w v n) :
    Calls Try.prog 8 #[v] w fun e w' => e = .returned (.bool true) ∧ Below w.heap.size w w' := by
  obtain ⟨A, c, rfl, hc1, hc2, -⟩ := id h
  unfold maxLen at hc2
  by_cases hbig : 1048576 < n
  · go_enter Try.func8, Try.ntmps8
    go_wp2
    go_ret
    exact ⟨rfl, by (repeat (first | (with_reducible assumption) | (with_reducible exact Below.refl _ _) | ((with_reducible refine Below.alloc ?_ ?hsz _); (case hsz => (first | omega | (simp; done) | (simp; omega) | (simp at *; omega)))) | ((with_reducible refine Below.setCell ?_ ?hsz _); (case hsz => (first | omega | (simp; done) | (simp; omega) | (simp at *; omega)))) | (with_reducible refine Below.drew ?_) | (with_reducible refine below_drewN ?_ _) | ((with_reducible refine Below.trans ?_ (Below.mono (by with_reducible assumption) ?hsz)); (case hsz => (first | omega | (simp; done) | (simp; omega) | (simp at *; omega))))))⟩
  go_enter Try.func8, Try.ntmps8
  go_wp2_with fail
  with_reducible refine (drawGreatestValue_any _ n _ (h.keep (by (repeat (first | (with_reducible assumption) | (with_reducible exact Below.refl _ _) | ((with_reducible refine Below.alloc ?_ ?hsz _); (case hsz => (first | omega | (simp; done) | (simp; omega) | (simp at *; omega)))) | ((with_reducible refine Below.setCell ?_ ?hsz _); (case hsz => (first | omega | (simp; done) | (simp; omega) | (simp at *; omega)))) | (with_reducible refine Below.drew ?_) | (with_reducible refine below_drewN ?_ _) | ((with_reducible refine Below.trans ?_ (Below.mono (by with_reducible assumption) ?hsz)); (case hsz => (first | omega | (simp; done) | (simp; omega) | (simp at *; omega))))))))).mono ?_
  rintro e w1 ⟨z, ps, u, i, j, rfl, hp, hb1, hl8, hz1, hz6, hi0, hj0, hiz⟩
  have hBw1 : Below w.heap.size w w1 := by (repeat (first | (with_reducible assumption) | (with_reducible exact Below.refl _ _) | ((with_reducible refine Below.alloc ?_ ?hsz _); (case hsz => (first | omega | (simp; done) | (simp; omega) | (simp at *; omega)))) | ((with_reducible refine Below.setCell ?_ ?hsz _); (case hsz => (first | omega | (simp; done) | (simp; omega) | (simp at *; omega)))) | (with_reducible refine Below.drew ?_) | (with_reducible refine below_drewN ?_ _) | ((with_reducible refine Below.trans ?_ (Below.mono (by with_reducible assumption) ?hsz)); (case hsz => (first | omega | (simp; done) | (simp; omega) | (simp at *; omega))))))
  clear h hc1 hc2 hbig
  obtain ⟨A1, c1, rfl, hk1, hk2, hsm, -⟩ := hp.form
  unfold maxLen at hk2
  have bx1 : Box2 (w1.alloc (.cells #[.int .i64 z, .slice A1 ps.length c1] 25)) w1.heap.size (.int .i64 z) (.slice A1 ps.length c1) := Box2.new _ _ _ _
  have hB1 : Below w1.heap.size w1 (w1.alloc (.cells #[.int .i64 z, .slice A1 ps.length c1] 25)) := by (repeat (first | (with_reducible assumption) | (with_reducible exact Below.refl _ _) | ((with_reducible refine Below.alloc ?_ ?hsz _); (case hsz => (first | omega | (simp; done) | (simp; omega) | (simp at *; omega)))) | ((with_reducible refine Below.setCell ?_ ?hsz _); (case hsz => (first | omega | (simp; done) | (simp; omega) | (simp at *; omega)))) | (with_reducible refine Below.drew ?_) | (with_reducible refine below_drewN ?_ _) | ((with_reducible refine Below.trans ?_ (Below.mono (by with_reducible assumption) ?hsz)); (case hsz => (first | omega | (simp; done) | (simp; omega) | (simp at *; omega))))))
  go_wp2_with fail
  with_reducible refine (greatestValue_any z i j _ ps _ _ (hp.keep hB1)).mono ?_
  rintro e w2 ⟨rfl, hnn⟩
  have bx2 := (bx1).keep hnn
  have hB2 : Below w1.heap.size w1 w2 := by (repeat (first | (with_reducible assumption) | (with_reducible exact Below.refl _ _) | ((with_reducible refine Below.alloc ?_ ?hsz _); (case hsz => (first | omega | (simp; done) | (simp; omega) | (simp at *; omega)))) | ((with_reducible refine Below.setCell ?_ ?hsz _); (case hsz => (first | omega | (simp; done) | (simp; omega) | (simp at *; omega)))) | (with_reducible refine Below.drew ?_) | (with_reducible refine below_drewN ?_ _) | ((with_reducible refine Below.trans ?_ (Below.mono (by with_reducible assumption) ?hsz)); (case hsz => (first | omega | (simp; done) | (simp; omega) | (simp at *; omega))))))
  clear hnn
  (try clear d0 d1 g0 g1)
  obtain ⟨bs, d0, d1, g0, g1⟩ := id bx2
  by_cases hg : greatB z ps i j = true
  · obtain ⟨hok, i0, i1, j0, j1, hij⟩ := ends_parts (great_parts hg).2
    have hG0 : 0 ≤ greatV z ps i j := by
      rw [great_cut hg]
      obtain ⟨s, -, -, -, es⟩ := least_at (great_parts hg).2
      rw [es]
      exact free_room (great_parts hg).1 s
    have hG1 : greatV z ps i j ≤ 1000 := by
      rw [great_cut hg]
      obtain ⟨s, -, -, -, es⟩ := least_at (great_parts hg).2
      have := room_bd7 (s := s) hok
      omega
    have Hback : Hid (∀ M : Int, 0 ≤ M → withB z ps ⟨j, i, M, M, 0⟩ = true → circB z (ps ++ [⟨j, i, M, M, 0⟩]) = decide (M ≤ greatV z ps i j)) := Lib.hid fun M h1 h2 => back hg h1 h2
    generalize greatV z ps i j = G at *
    have hGd : decide (G < 0) = false := decide_eq_false (by omega)
    clear hg hok hij
    go_wp2_with fail
    go_loopw [7] (fun t wr => ∃ k : Nat, k ≤ 5 ∧ t = .int .i64 k ∧ Box2 wr w1.heap.size (.int .i64 z) (.slice A1 ps.length c1) ∧ Below w1.heap.size w1 wr) (fun t _ => 5 - (intOf t).toNat)
    case atStart => exact ⟨0, by omega, rfl, bx2, hB2⟩
    case round =>
      clear d0 d1 g0 g1 bs bx2 hB2
      obtain ⟨k, hk, rfl, bx, hB⟩ := hrel
      obtain ⟨bs, d0, d1, g0, g1⟩ := id bx
      have hzB := hB.size
      by_cases hlt : k < 5
      · have hlt' : (k : Int) ≤ 4 := by omega
        have HK := Lib.hid hlt'
        have hkd : decide ((k : Int) ≤ 4) = true := decide_eq_true hlt'
        clear hlt'
        go_wp2_with fail
        refine (withPipe_any z _ ps ⟨j, i, k, k, 0⟩ _ _ (hp.keep hB) (by omega)).mono ?_
        rintro e w3 ⟨s3, rfl, hs3, hnn⟩
        have bx3 := bx.keep hnn
        have hB3 := hB.trans (hnn.mono hzB)
        have hz3 := hB3.size
        clear d0 d1 g0 g1 bs bx hnn
        obtain ⟨bs, d0, d1, g0, g1⟩ := id bx3
        obtain ⟨PA, pc, rfl, -, -, -, -⟩ := hs3.form
        obtain ⟨LP, hLP⟩ : ∃ L, (withL z ps ⟨j, i, k, k, 0⟩).length = L := ⟨_, rfl⟩
        rw [hLP] at hs3 ⊢
        obtain ⟨nn, hnn2⟩ : ∃ m, withN z ps ⟨j, i, k, k, 0⟩ = m := ⟨_, rfl⟩
        rw [hnn2]
        have HNN := Lib.hid hnn2
        clear hLP hnn2
        have hs4 := hs3.keep ((Below.refl w3.heap.size w3).alloc (Nat.le_refl _) (.cells #[.int .i64 nn, .slice PA LP pc] 25))
        have bx4 := bx3.keep ((Below.refl w3.heap.size w3).alloc (Nat.le_refl _) (.cells #[.int .i64 nn, .slice PA LP pc] 25))
        have hB4 : Below w1.heap.size w1 (w3.alloc (.cells #[.int .i64 nn, .slice PA LP pc] 25)) := hB3.alloc hz3 _
        obtain ⟨wb, hwb⟩ : ∃ wb, withB z ps ⟨j, i, k, k, 0⟩ = wb := ⟨_, rfl⟩
        rw [hwb]
        go_wp2_with fail
        refine (circ_any nn _ (withL z ps ⟨j, i, k, k, 0⟩) _ _ hs4).mono ?_
        rintro e w5 ⟨r5, rfl, hr5, hnn⟩
        have bx5 := bx4.keep hnn
        have hB5 := hB4.trans (hnn.mono hB4.size)
        clear d0 d1 g0 g1 bs bx3 bx4 hnn hs3 hs4 hr5
        obtain ⟨bs, d0, d1, g0, g1⟩ := id bx5
        cases wb with
        | true =>
          have hcb : circB nn (withL z ps ⟨j, i, k, k, 0⟩) = decide ((k : Int) ≤ G) := by
            rw [← HNN.out, (with_yes hwb).1, (with_yes hwb).2]
            exact Hback.out k (by omega) hwb
          rw [hcb]
          clear hcb hwb
          by_cases hkG : (k : Int) ≤ G
          · have hkGd : decide ((k : Int) ≤ G) = true := decide_eq_true hkG
            go_wp2
            go_roundw
            case rel => exact ⟨k + 1, by omega, by go_num, bx5, hB5⟩
            case measure => simp [intOf]; omega
          · have hkGd : decide ((k : Int) ≤ G) = false := decide_eq_false hkG
            go_wp2
            go_roundw
            case rel => exact ⟨k + 1, by omega, by go_num, bx5, hB5⟩
            case measure => simp [intOf]; omega
        | false =>
          clear hwb
          generalize circB nn (withL z ps ⟨j, i, k, k, 0⟩) = cb at *
          go_wp2
          go_roundw
          case rel => exact ⟨k + 1, by omega, by go_num, bx5, hB5⟩
          case measure => simp [intOf]; omega
      · have hk5 : k = 5 := by omega
        subst hk5
        go_wp2_with fail
        with_reducible refine (alive_any _).mono ?_
        rintro e w6 ⟨rfl, hnn⟩
        have bx6 := (bx).keep hnn
        have hB6 : Below w1.heap.size w1 w6 := by (repeat (first | (with_reducible assumption) | (with_reducible exact Below.refl _ _) | ((with_reducible refine Below.alloc ?_ ?hsz _); (case hsz => (first | omega | (simp; done) | (simp; omega) | (simp at *; omega)))) | ((with_reducible refine Below.setCell ?_ ?hsz _); (case hsz => (first | omega | (simp; done) | (simp; omega) | (simp at *; omega)))) | (with_reducible refine Below.drew ?_) | (with_reducible refine below_drewN ?_ _) | ((with_reducible refine Below.trans ?_ (Below.mono (by with_reducible assumption) ?hsz)); (case hsz => (first | omega | (simp; done) | (simp; omega) | (simp at *; omega))))))
        clear hnn
        (try clear d0 d1 g0 g1)
        obtain ⟨bs, d0, d1, g0, g1⟩ := id bx6
        go_wp2
        (go_ret; exact ⟨rfl, hBw1.trans (Below.mono (by with_reducible assumption) hBw1.size)⟩)
  · have hG : greatV z ps i j = -1 := by rw [greatV, if_neg hg]
    rw [hG]
    clear hg hG
    go_wp2_with fail
    with_reducible refine (alive_any _).mono ?_
    rintro e w3 ⟨rfl, hnn⟩
    have bx3 := (bx2).keep hnn
    have hB3 : Below w1.heap.size w1 w3 := by (repeat (first | (with_reducible assumption) | (with_reducible exact Below.refl _ _) | ((with_reducible refine Below.alloc ?_ ?hsz _); (case hsz => (first | omega | (simp; done) | (simp; omega) | (simp at *; omega)))) | ((with_reducible refine Below.setCell ?_ ?hsz _); (case hsz => (first | omega | (simp; done) | (simp; omega) | (simp at *; omega)))) | (with_reducible refine Below.drew ?_) | (with_reducible refine below_drewN ?_ _) | ((with_reducible refine Below.trans ?_ (Below.mono (by with_reducible assumption) ?hsz)); (case hsz => (first | omega | (simp; done) | (simp; omega) | (simp at *; omega))))))
    clear hnn
    (try clear d0 d1 g0 g1)
    obtain ⟨bs, d0, d1, g0, g1⟩ := id bx3
    go_wp2
    (go_ret; exact ⟨rfl, hBw1.trans (Below.mono (by with_reducible assumption) hBw1.size)⟩)

set_option maxRecDepth 100000 in
theorem contract (H : Type) (enc : TypeId × Value → H) (W : World) (base : Nat) (args : Array Value) (ds gs : List (DataW H)) (before : List MemPlace)
    (hval : ∀ (j : Nat) t v, Try.f8.params[j]? = some t → args[j]? = some v → Value.okWide Try.prog W .any base t v)
    (hW : DataW.Whole enc Try.prog Try.f8.params.toList Rows.fnBackPipeSpec.vars false W args.toList ds gs before) :
    Calls Try.prog 8 args W fun e W' => ∃ v, e = .returned v ∧ Rows.fnBackPipeSpec.post enc Try.prog Try.f8 false true false false W args v W' := by
  have hW' := hW
  obtain ⟨p, q, hA0, hV, rfl, hfz, hnd⟩ := hW
  have hA : DataW.TrodAll enc Try.prog W 0 (fun _ => true) true Try.f8.params.toList args.toList ds p := hA0
  rw [Try.params8] at hA hval
  obtain ⟨u0, us0, d0, ds0, p0, q0, hargs, rfl, rfl, g0, k0⟩ := trodAll_cons hA
  obtain ⟨rfl, rfl, rfl⟩ := trodAll_nil k0
  obtain rfl : args = #[u0] := by cases args; simp_all
  obtain ⟨rfl, rfl⟩ := trodVars_none hV
  obtain ⟨m0, e0⟩ := g0
  obtain ⟨s0, l0, f0, hh0⟩ := open_arg_bytes e0
  have f0' := one_of_cells Try.underlying22 (hval 0 _ _ rfl rfl) f0
  subst f0'
  refine (walk _ l0 W hh0).mono fun e W' ⟨he, hb⟩ => ?_
  subst he
  exact ⟨_, rfl, law_post Try.kids Try.full (by rw [Try.params8]; decide) rfl rfl Try.underlying4 hW' rfl rfl rfl hb⟩

set_option maxRecDepth 100000 in
theorem lifted (os : Os) (started : os.Started) (H : Type) (enc : TypeId × Value → H) :
    ReturnsInHanded {} Try.checked os 8 .any (Rows.fnBackPipeSpec.pre6 enc Try.prog Try.f8 Rows.fnBackPipeRow.domain false) (Rows.fnBackPipeSpec.post enc Try.prog Try.f8 false true false false) := by
  refine returnsInHanded_of_change (C := Try.checked) Try.own started (by kernel_rfl) Try.func8
    (ChangeSpec.witness6 (enc := enc) (C := Try.checked) false ⟨#[], #[.slice none 0 0], []⟩ 8 (by kernel_rfl) (by kernel_rfl) (by kernel_rfl) (by kernel_rfl)) ?_
  intro W base args ds gs before hval0 hW _ _
  exact contract H enc W base args ds gs before hval0 hW

theorem proved : Rows.FnBackPipeSaid :=
  OpenClaim.holds_of_wide 8 Try.f8 rfl rfl rfl rfl rfl rfl rfl ⟨rfl, rfl, rfl, rfl, rfl⟩ rfl rfl rfl rfl rfl (by kernel_rfl) Try.func8 (by kernel_rfl)
    (of_decide_eq_true (by kernel_rfl)) (by unfold Func.isWrapper; first | (rw [if_pos (by decide +kernel)]; kernel_rfl) | (rw [if_neg (by decide +kernel)]; exact ⟨rfl, rfl⟩))
    (fun os started H enc _ => lifted os started H enc)

end Go.Proofs.Ytobbeofibkpbaaa.lawBackPipe
