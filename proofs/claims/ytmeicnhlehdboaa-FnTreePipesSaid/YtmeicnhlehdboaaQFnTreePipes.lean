/- FnTreePipes: for every code the law holds: the program's TreePipes answers as the model; there are as many pipes of the tree as nodes, less the pieces; each other pipe has a ring, and none of them has. No condition. -/
import Derived.Test.YtmeicnhlehdboaaL1
import Derived.Test.YtmeicnhlehdboaaL3
import Derived.Test.YtmeicnhlehdboaaDZ
import Derived.Test.YtmeicnhlehdboaaJ3
import Derived.Test.YtmeicnhlehdboaaJ4
import Derived.Test.YtmeicnhlehdboaaJ6
import Derived.Test.YtmeicnhlehdboaaU5
import Derived.Test.YtmeicnhlehdboaaX1
namespace Go.Proofs.Ytmeicnhlehdboaa.lawTreePipes
open Go.ChangeShapes Go.WideShapes Go.ChangeAt Go.RowKit Go.Deep Go.Joins

set_option maxHeartbeats 4000000 in
set_option maxRecDepth 20000 in
theorem walk (v : Value) (n : Nat) (w : World) (h : ArgBytes w v n) :
    Calls Try.prog 3 #[v] w fun e w' => e = .returned (.bool true) ∧ Below w.heap.size w w' := by
  obtain ⟨A, c, rfl, hc1, hc2, -⟩ := id h
  unfold maxLen at hc2
  by_cases hbig : 1048576 < n
  · go_enter Try.func3, Try.ntmps3
    go_wp2
    go_ret
    exact ⟨rfl, by (repeat (first | (with_reducible assumption) | (with_reducible exact Below.refl _ _) | ((with_reducible refine Below.alloc ?_ ?hsz _); (case hsz => (first | omega | (simp; done) | (simp; omega) | (simp at *; omega)))) | ((with_reducible refine Below.setCell ?_ ?hsz _); (case hsz => (first | omega | (simp; done) | (simp; omega) | (simp at *; omega)))) | (with_reducible refine Below.drew ?_) | (with_reducible refine below_drewN ?_ _) | ((with_reducible refine Below.trans ?_ (Below.mono (by with_reducible assumption) ?hsz)); (case hsz => (first | omega | (simp; done) | (simp; omega) | (simp at *; omega))))))⟩
  go_enter Try.func3, Try.ntmps3
  go_wp2_with fail
  with_reducible refine (drawTreePipes_any _ n _ (h.keep (by (repeat (first | (with_reducible assumption) | (with_reducible exact Below.refl _ _) | ((with_reducible refine Below.alloc ?_ ?hsz _); (case hsz => (first | omega | (simp; done) | (simp; omega) | (simp at *; omega)))) | ((with_reducible refine Below.setCell ?_ ?hsz _); (case hsz => (first | omega | (simp; done) | (simp; omega) | (simp at *; omega)))) | (with_reducible refine Below.drew ?_) | (with_reducible refine below_drewN ?_ _) | ((with_reducible refine Below.trans ?_ (Below.mono (by with_reducible assumption) ?hsz)); (case hsz => (first | omega | (simp; done) | (simp; omega) | (simp at *; omega))))))))).mono ?_
  rintro e w1 ⟨z, ps, u, rfl, hp, hb1, hl8, hz1, hz6⟩
  have hBw1 : Below w.heap.size w w1 := by (repeat (first | (with_reducible assumption) | (with_reducible exact Below.refl _ _) | ((with_reducible refine Below.alloc ?_ ?hsz _); (case hsz => (first | omega | (simp; done) | (simp; omega) | (simp at *; omega)))) | ((with_reducible refine Below.setCell ?_ ?hsz _); (case hsz => (first | omega | (simp; done) | (simp; omega) | (simp at *; omega)))) | (with_reducible refine Below.drew ?_) | (with_reducible refine below_drewN ?_ _) | ((with_reducible refine Below.trans ?_ (Below.mono (by with_reducible assumption) ?hsz)); (case hsz => (first | omega | (simp; done) | (simp; omega) | (simp at *; omega))))))
  clear h hc1 hc2 hbig
  obtain ⟨A1, c1, rfl, hk1, hk2, hsm, -⟩ := hp.form
  unfold maxLen at hk2
  have bx1 : Box2 (w1.alloc (.cells #[.int .i64 z, .slice A1 ps.length c1] 25)) w1.heap.size (.int .i64 z) (.slice A1 ps.length c1) := Box2.new _ _ _ _
  have hB1 : Below w1.heap.size w1 (w1.alloc (.cells #[.int .i64 z, .slice A1 ps.length c1] 25)) := by (repeat (first | (with_reducible assumption) | (with_reducible exact Below.refl _ _) | ((with_reducible refine Below.alloc ?_ ?hsz _); (case hsz => (first | omega | (simp; done) | (simp; omega) | (simp at *; omega)))) | ((with_reducible refine Below.setCell ?_ ?hsz _); (case hsz => (first | omega | (simp; done) | (simp; omega) | (simp at *; omega)))) | (with_reducible refine Below.drew ?_) | (with_reducible refine below_drewN ?_ _) | ((with_reducible refine Below.trans ?_ (Below.mono (by with_reducible assumption) ?hsz)); (case hsz => (first | omega | (simp; done) | (simp; omega) | (simp at *; omega))))))
  go_wp2_with fail
  with_reducible refine (treePipes_any z _ ps _ _ (hp.keep hB1)).mono ?_
  rintro e w2 ⟨sA, rfl, hL2, hnn⟩
  have bx2 := (bx1).keep hnn
  have hB2 : Below w1.heap.size w1 w2 := by (repeat (first | (with_reducible assumption) | (with_reducible exact Below.refl _ _) | ((with_reducible refine Below.alloc ?_ ?hsz _); (case hsz => (first | omega | (simp; done) | (simp; omega) | (simp at *; omega)))) | ((with_reducible refine Below.setCell ?_ ?hsz _); (case hsz => (first | omega | (simp; done) | (simp; omega) | (simp at *; omega)))) | (with_reducible refine Below.drew ?_) | (with_reducible refine below_drewN ?_ _) | ((with_reducible refine Below.trans ?_ (Below.mono (by with_reducible assumption) ?hsz)); (case hsz => (first | omega | (simp; done) | (simp; omega) | (simp at *; omega))))))
  have hbl := hnn
  clear hnn
  (try clear d0 d1 g0 g1)
  obtain ⟨bs, d0, d1, g0, g1⟩ := id bx2
  clear hbl
  obtain ⟨SA, sc, rfl, sk1, sk2, -, -⟩ := hL2.form
  go_wp2_with fail
  with_reducible refine (specTree_any z _ ps _ _ (hp.keep hB2)).mono ?_
  rintro e w3 ⟨sM, rfl, hM3, hnn⟩
  have bx3 := (bx2).keep hnn
  have hB3 : Below w1.heap.size w1 w3 := by (repeat (first | (with_reducible assumption) | (with_reducible exact Below.refl _ _) | ((with_reducible refine Below.alloc ?_ ?hsz _); (case hsz => (first | omega | (simp; done) | (simp; omega) | (simp at *; omega)))) | ((with_reducible refine Below.setCell ?_ ?hsz _); (case hsz => (first | omega | (simp; done) | (simp; omega) | (simp at *; omega)))) | (with_reducible refine Below.drew ?_) | (with_reducible refine below_drewN ?_ _) | ((with_reducible refine Below.trans ?_ (Below.mono (by with_reducible assumption) ?hsz)); (case hsz => (first | omega | (simp; done) | (simp; omega) | (simp at *; omega))))))
  have hbl := hnn
  clear hnn
  (try clear d0 d1 g0 g1)
  obtain ⟨bs, d0, d1, g0, g1⟩ := id bx3
  obtain ⟨MA, mc, rfl, mk1, mk2, -, -⟩ := hM3.form
  have hL3 := hL2.keep hbl
  clear hbl hL2
  obtain ⟨T, hT⟩ : ∃ T, treeR z ps = T := ⟨_, rfl⟩
  have HT := Lib.hid hT
  rw [hT] at hL3 hM3 sk1 mk1 ⊢
  clear hT
  go_wp2_with fail
  with_reducible refine (sameInts_any _ _ T T _ _ _ hL3 hM3).mono ?_
  rintro e w4 ⟨rfl, hnn⟩
  have bx4 := (bx3).keep hnn
  have hB4 : Below w1.heap.size w1 w4 := by (repeat (first | (with_reducible assumption) | (with_reducible exact Below.refl _ _) | ((with_reducible refine Below.alloc ?_ ?hsz _); (case hsz => (first | omega | (simp; done) | (simp; omega) | (simp at *; omega)))) | ((with_reducible refine Below.setCell ?_ ?hsz _); (case hsz => (first | omega | (simp; done) | (simp; omega) | (simp at *; omega)))) | (with_reducible refine Below.drew ?_) | (with_reducible refine below_drewN ?_ _) | ((with_reducible refine Below.trans ?_ (Below.mono (by with_reducible assumption) ?hsz)); (case hsz => (first | omega | (simp; done) | (simp; omega) | (simp at *; omega))))))
  have hb4 := ((Below.refl w3.heap.size w3)).trans (hnn.mono ((Below.refl w3.heap.size w3)).size)
  clear hnn
  (try clear d0 d1 g0 g1)
  obtain ⟨bs, d0, d1, g0, g1⟩ := id bx4
  have hL4 := hL3.keep hb4
  clear hM3 hL3 hb4
  have hdec : decide (T = T) = true := by simp
  rw [hdec]
  clear hdec
  unfold maxLen at sk2 mk2
  go_wp2_with fail
  with_reducible refine (specNetOk_any z _ ps _ _ (hp.keep hB4)).mono ?_
  rintro e w5 ⟨rfl, hnn⟩
  have bx5 := (bx4).keep hnn
  have hB5 : Below w1.heap.size w1 w5 := by (repeat (first | (with_reducible assumption) | (with_reducible exact Below.refl _ _) | ((with_reducible refine Below.alloc ?_ ?hsz _); (case hsz => (first | omega | (simp; done) | (simp; omega) | (simp at *; omega)))) | ((with_reducible refine Below.setCell ?_ ?hsz _); (case hsz => (first | omega | (simp; done) | (simp; omega) | (simp at *; omega)))) | (with_reducible refine Below.drew ?_) | (with_reducible refine below_drewN ?_ _) | ((with_reducible refine Below.trans ?_ (Below.mono (by with_reducible assumption) ?hsz)); (case hsz => (first | omega | (simp; done) | (simp; omega) | (simp at *; omega))))))
  have hb5 := ((Below.refl w4.heap.size w4)).trans (hnn.mono ((Below.refl w4.heap.size w4)).size)
  clear hnn
  (try clear d0 d1 g0 g1)
  obtain ⟨bs, d0, d1, g0, g1⟩ := id bx5
  have hL5 := hL4.keep hb5
  clear hL4 hb5
  cases hok : netOkB z ps with
  | false =>
    have hS0 : T = [] := by rw [← HT.out, treeR, if_neg (by simp [hok])]
    clear HT
    subst hS0
    simp only [List.length_nil] at *
    go_wp2_with fail
    with_reducible refine (alive_any _).mono ?_
    rintro e w6 ⟨rfl, hnn⟩
    have bx6 := (bx5).keep hnn
    have hB6 : Below w1.heap.size w1 w6 := by (repeat (first | (with_reducible assumption) | (with_reducible exact Below.refl _ _) | ((with_reducible refine Below.alloc ?_ ?hsz _); (case hsz => (first | omega | (simp; done) | (simp; omega) | (simp at *; omega)))) | ((with_reducible refine Below.setCell ?_ ?hsz _); (case hsz => (first | omega | (simp; done) | (simp; omega) | (simp at *; omega)))) | (with_reducible refine Below.drew ?_) | (with_reducible refine below_drewN ?_ _) | ((with_reducible refine Below.trans ?_ (Below.mono (by with_reducible assumption) ?hsz)); (case hsz => (first | omega | (simp; done) | (simp; omega) | (simp at *; omega))))))
    clear hnn
    (try clear d0 d1 g0 g1)
    obtain ⟨bs, d0, d1, g0, g1⟩ := id bx6
    go_wp2
    (go_ret; exact ⟨rfl, hBw1.trans (Below.mono (by with_reducible assumption) hBw1.size)⟩)
  | true =>
    obtain ⟨n2, n5, hl7, -⟩ := netOk_parts hok
    obtain ⟨N, rfl⟩ := Int.eq_ofNat_of_zero_le (show 0 ≤ z by omega)
    have HTL := Lib.hid (show T = treeL N ps by rw [← HT.out, treeR, if_pos hok, Int.toNat_natCast])
    have HSB := Lib.hid (fun (k : Nat) (hk : k < ps.length) => signB_at hok hk)
    have HIN := Lib.hid (fun (k : Nat) (hk : k < ps.length) => tree_in (n := N) hk)
    have hfew := tree_few (n := N) (ps := ps) (net_endsIn hok)
    rw [← HTL.out] at hfew
    have HPC : Hid (piecesI (N : Int) ps = (N : Int) - (T.length : Int)) := Lib.hid (by rw [piecesI, if_pos hok, Int.toNat_natCast, ← HTL.out])
    have HASC : Hid (T.Pairwise (· < ·)) := Lib.hid (by rw [HTL.out]; exact numW_pair _ _)
    obtain ⟨Tn, hTn⟩ : ∃ Tn, T.length = Tn := ⟨_, rfl⟩
    rw [hTn] at sk1 mk1 hfew HPC hL5 ⊢
    have hTn5 : Tn ≤ 5 := by omega
    clear hok hTn
    go_wp2
    go_loopw [5] (fun a wr => ∃ k : Nat, k ≤ ps.length ∧ a = .int .i64 (k : Int) ∧ Box2 wr w1.heap.size (.int .i64 (N : Int)) (.slice A1 ps.length c1) ∧ Below w1.heap.size w1 wr ∧ Below w5.heap.size w5 wr) (fun a _ => ps.length - (intOf a).toNat)
    case atStart => exact ⟨0, by omega, rfl, bx5, hB5, Below.refl _ _⟩
    case round =>
      clear bx5 hB5 d0 d1 g0 g1 bs
      obtain ⟨k, hk, rfl, bx, hB, hC⟩ := hrel
      obtain ⟨bs, d0, d1, g0, g1⟩ := id bx
      by_cases hlt : k < ps.length
      · have Hsb := Lib.hid (HSB.out k hlt)
        have Hin := Lib.hid (HIN.out k hlt)
        go_wp2_with fail
        with_reducible refine (ringSigns_any (N : Int) (k : Int) _ ps _ _ (hp.keep hB)).mono ?_
        rintro e w6 ⟨r6, rfl, -, hnn⟩
        rw [Hsb.out, Int.toNat_natCast]
        have bx6 := bx.keep hnn
        have hB6 : Below w1.heap.size w1 w6 := by (repeat (first | (with_reducible assumption) | (with_reducible exact Below.refl _ _) | ((with_reducible refine Below.alloc ?_ ?hsz _); (case hsz => (first | omega | (simp; done) | (simp; omega) | (simp at *; omega)))) | ((with_reducible refine Below.setCell ?_ ?hsz _); (case hsz => (first | omega | (simp; done) | (simp; omega) | (simp at *; omega)))) | (with_reducible refine Below.drew ?_) | (with_reducible refine below_drewN ?_ _) | ((with_reducible refine Below.trans ?_ (Below.mono (by with_reducible assumption) ?hsz)); (case hsz => (first | omega | (simp; done) | (simp; omega) | (simp at *; omega))))))
        have hC6 : Below w5.heap.size w5 w6 := hC.trans (hnn.mono hC.size)
        clear hnn bx hB hC d0 d1 g0 g1 bs
        obtain ⟨bs, d0, d1, g0, g1⟩ := id bx6
        go_wp2_with fail
        with_reducible refine (hasInt_any _ T (k : Int) _ _ (hL5.keep hC6)).mono ?_
        rintro e w7 ⟨rfl, hnn⟩
        rw [HTL.out, Hin.out]
        have bx7 := bx6.keep hnn
        have hB7 : Below w1.heap.size w1 w7 := hB6.trans (hnn.mono hB6.size)
        have hC7 : Below w5.heap.size w5 w7 := hC6.trans (hnn.mono hC6.size)
        clear hnn bx6 hB6 hC6 d0 d1 g0 g1 bs
        obtain ⟨bs, d0, d1, g0, g1⟩ := id bx7
        cases htf : treeF N ps k with
        | true =>
          go_wp2
          go_roundw
          case rel => exact ⟨k + 1, by omega, by go_num, bx7, hB7, hC7⟩
          case measure => simp [intOf]; omega
        | false =>
          go_wp2
          go_roundw
          case rel => exact ⟨k + 1, by omega, by go_num, bx7, hB7, hC7⟩
          case measure => simp [intOf]; omega
      · have hkk : k = ps.length := by omega
        have Ha : Hid (∀ p : Bw wr, Calls Try.prog 18 #[.slice SA Tn sc] p.v fun e w' => e = .returned (.bool true) ∧ Below p.v.heap.size p.v w') :=
          Lib.hid fun p => ascend_any _ T _ _ ((hL5.keep hC).keep p.h) HASC.out
        have Hp : Hid (∀ p : Bw wr, Calls Try.prog 19 #[.agg #[.int .i64 (N : Int), .slice A1 ps.length c1]] p.v fun e w' => e = .returned (.int .i64 ((N : Int) - (Tn : Int))) ∧ Below p.v.heap.size p.v w') :=
          Lib.hid fun p => (piecesOf_any (N : Int) _ ps _ _ ((hp.keep hB).keep p.h)).mono fun e w' h => ⟨by rw [h.1, HPC.out], h.2⟩
        have he : (N : Int) - ((N : Int) - (Tn : Int)) = (Tn : Int) := by omega
        have heq : ((Tn : Int) == (Tn : Int)) = true := by simp
        clear hk hkk
        go_wp2_with fail
        clear hlt
        have hd0 := fun p : Bw wr => (bw_cell p bs).trans d0
        have hd1 := fun p : Bw wr => (bw_cell p bs).trans d1
        refine wp_region_bw (by kernel_rfl) (by kernel_rfl) ?_
        repeat (go_big_quiet_step ((first | (go_at_call 18; refine calls_bw (Ha.out _)) | (go_at_call 19; refine calls_bw (Hp.out _)))))
        refine wpQuiet_nil ?_
        rintro _ ⟨pw, rfl⟩
        have bxq := (bx).keep pw.h
        have hBq := (hB).trans (pw.h.mono (hB).size)
        have hbq := pw.h
        obtain ⟨wq, hwq⟩ : ∃ wq, wq = pw.v := ⟨_, rfl⟩
        rw [← hwq] at bxq hBq hbq ⊢
        clear d0 d1 g0 g1 hd0 hd1 hwq
        obtain ⟨bs, d0, d1, g0, g1⟩ := id bxq
        go_wp2
        (go_ret; exact ⟨rfl, hBw1.trans (Below.mono (by with_reducible assumption) hBw1.size)⟩)

set_option maxRecDepth 100000 in
theorem contract (H : Type) (enc : TypeId × Value → H) (W : World) (base : Nat) (args : Array Value) (ds gs : List (DataW H)) (before : List MemPlace)
    (hval : ∀ (j : Nat) t v, Try.f3.params[j]? = some t → args[j]? = some v → Value.okWide Try.prog W .any base t v)
    (hW : DataW.Whole enc Try.prog Try.f3.params.toList Rows.fnTreePipesSpec.vars false W args.toList ds gs before) :
    Calls Try.prog 3 args W fun e W' => ∃ v, e = .returned v ∧ Rows.fnTreePipesSpec.post enc Try.prog Try.f3 false true false false W args v W' := by
  have hW' := hW
  obtain ⟨p, q, hA0, hV, rfl, hfz, hnd⟩ := hW
  have hA : DataW.TrodAll enc Try.prog W 0 (fun _ => true) true Try.f3.params.toList args.toList ds p := hA0
  rw [Try.params3] at hA hval
  obtain ⟨u0, us0, d0, ds0, p0, q0, hargs, rfl, rfl, g0, k0⟩ := trodAll_cons hA
  obtain ⟨rfl, rfl, rfl⟩ := trodAll_nil k0
  obtain rfl : args = #[u0] := by cases args; simp_all
  obtain ⟨rfl, rfl⟩ := trodVars_none hV
  obtain ⟨m0, e0⟩ := g0
  obtain ⟨s0, l0, f0, hh0⟩ := open_arg_bytes e0
  have f0' := one_of_cells Try.underlying22 (hval 0 _ _ rfl rfl) f0
  subst f0'
  refine (walk _ l0 W hh0).mono fun e W' ⟨he, hb⟩ => ?_
  subst he
  exact ⟨_, rfl, law_post Try.kids Try.full (by rw [Try.params3]; decide) rfl rfl Try.underlying4 hW' rfl rfl rfl hb⟩

set_option maxRecDepth 100000 in
theorem lifted (os : Os) (started : os.Started) (H : Type) (enc : TypeId × Value → H) :
    ReturnsInHanded {} Try.checked os 3 .any (Rows.fnTreePipesSpec.pre6 enc Try.prog Try.f3 Rows.fnTreePipesRow.domain false) (Rows.fnTreePipesSpec.post enc Try.prog Try.f3 false true false false) := by
  refine returnsInHanded_of_change (C := Try.checked) Try.own started (by kernel_rfl) Try.func3
    (ChangeSpec.witness6 (enc := enc) (C := Try.checked) false ⟨#[], #[.slice none 0 0], []⟩ 8 (by kernel_rfl) (by kernel_rfl) (by kernel_rfl) (by kernel_rfl)) ?_
  intro W base args ds gs before hval0 hW _ _
  exact contract H enc W base args ds gs before hval0 hW

theorem proved : Rows.FnTreePipesSaid :=
  OpenClaim.holds_of_wide 3 Try.f3 rfl rfl rfl rfl rfl rfl rfl ⟨rfl, rfl, rfl, rfl, rfl⟩ rfl rfl rfl rfl rfl (by kernel_rfl) Try.func3 (by kernel_rfl)
    (of_decide_eq_true (by kernel_rfl)) (by unfold Func.isWrapper; first | (rw [if_pos (by decide +kernel)]; kernel_rfl) | (rw [if_neg (by decide +kernel)]; exact ⟨rfl, rfl⟩))
    (fun os started H enc _ => lifted os started H enc)

end Go.Proofs.Ytmeicnhlehdboaa.lawTreePipes
